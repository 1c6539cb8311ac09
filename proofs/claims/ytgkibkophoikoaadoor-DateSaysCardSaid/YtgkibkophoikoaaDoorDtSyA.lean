/- DtSy11, DtSaysW: these texts in one. -/
import Derived.Test.YtgkibkophoikoaaDoorVals
import Derived.Test.YtgkibkophoikoaaDoorAppend
import Derived.WalkKit
import Derived.WalkSpells
import Derived.WalkLawsBesides
import Derived.Lib.Hide
import Derived.Test.YtgkibkophoikoaaDoorDtAwake
import Derived.Test.YtgkibkophoikoaaDoorDtRpA
import Derived.Test.YtgkibkophoikoaaDoorDtROf
import Derived.Test.YtgkibkophoikoaaDoorDtRdA
namespace Go.Proofs.YtgkibkophoikoaaDoor
open Go.RowKit
set_option linter.unusedVariables false
set_option linter.unusedSimpArgs false

def opsDtsy : Array Oper := #[
  { dst := some 58, op := Op.load 24 (Operand.tmp 9), type := 24, pos := "law.go:55", after := #[], guard := none },
  { dst := some 59, op := Op.call { callee := Callee.value (Operand.func 17), args := #[Operand.tmp 58], argTypes := #[24] }, type := 33, pos := "law.go:55", after := #[{ on := 0, ground := Ground.data }], guard := none },
  { dst := some 60, op := Op.load 33 (Operand.tmp 11), type := 33, pos := "law.go:55", after := #[], guard := none },
  { dst := some 61, op := Op.binOp BinOp.eql 33 (Operand.tmp 59) (Operand.tmp 60) 33, type := 4, pos := "law.go:55", after := #[{ on := 1, ground := Ground.data }, { on := 2, ground := Ground.data }], guard := none },
  { dst := some 62, op := Op.move (Operand.tmp 61), type := 4, pos := "law.go:55", after := #[{ on := 3, ground := Ground.data }, { on := 1, ground := Ground.chain }], guard := none },
  { dst := some 63, op := Op.move (Operand.tmp 10), type := 25, pos := "law.go:55", after := #[{ on := 4, ground := Ground.guard }], guard := some (4, true) },
  { dst := some 64, op := Op.move (Operand.tmp 12), type := 25, pos := "law.go:55", after := #[{ on := 4, ground := Ground.guard }], guard := some (4, true) },
  { dst := some 65, op := Op.binOp BinOp.eql 25 (Operand.tmp 63) (Operand.tmp 64) 25, type := 4, pos := "law.go:55", after := #[{ on := 5, ground := Ground.data }, { on := 6, ground := Ground.data }, { on := 4, ground := Ground.guard }], guard := some (4, true) },
  { dst := some 66, op := Op.pick (Operand.tmp 62) (Operand.tmp 65) (Operand.const (Value.bool false)), type := 4, pos := "law.go:55", after := #[{ on := 4, ground := Ground.data }, { on := 7, ground := Ground.data }], guard := none },
  { dst := some 67, op := Op.move (Operand.tmp 66), type := 4, pos := "law.go:55", after := #[{ on := 8, ground := Ground.data }, { on := 4, ground := Ground.chain }], guard := none },
  { dst := some 68, op := Op.load 24 (Operand.tmp 13), type := 24, pos := "law.go:55", after := #[{ on := 9, ground := Ground.guard }], guard := some (9, true) },
  { dst := some 69, op := Op.call { callee := Callee.value (Operand.func 17), args := #[Operand.tmp 68], argTypes := #[24] }, type := 33, pos := "law.go:55", after := #[{ on := 10, ground := Ground.data }, { on := 9, ground := Ground.chain }, { on := 9, ground := Ground.guard }], guard := some (9, true) },
  { dst := some 70, op := Op.load 33 (Operand.tmp 15), type := 33, pos := "law.go:55", after := #[{ on := 9, ground := Ground.guard }], guard := some (9, true) },
  { dst := some 71, op := Op.binOp BinOp.eql 33 (Operand.tmp 69) (Operand.tmp 70) 33, type := 4, pos := "law.go:55", after := #[{ on := 11, ground := Ground.data }, { on := 12, ground := Ground.data }, { on := 9, ground := Ground.guard }], guard := some (9, true) },
  { dst := some 72, op := Op.pick (Operand.tmp 67) (Operand.tmp 71) (Operand.const (Value.bool false)), type := 4, pos := "law.go:55", after := #[{ on := 9, ground := Ground.data }, { on := 13, ground := Ground.data }], guard := none },
  { dst := some 73, op := Op.move (Operand.tmp 72), type := 4, pos := "law.go:55", after := #[{ on := 14, ground := Ground.data }, { on := 11, ground := Ground.chain }], guard := none },
  { dst := some 74, op := Op.move (Operand.tmp 14), type := 25, pos := "law.go:55", after := #[{ on := 15, ground := Ground.guard }], guard := some (15, true) },
  { dst := some 75, op := Op.move (Operand.tmp 16), type := 25, pos := "law.go:55", after := #[{ on := 15, ground := Ground.guard }], guard := some (15, true) },
  { dst := some 76, op := Op.binOp BinOp.eql 25 (Operand.tmp 74) (Operand.tmp 75) 25, type := 4, pos := "law.go:55", after := #[{ on := 16, ground := Ground.data }, { on := 17, ground := Ground.data }, { on := 15, ground := Ground.guard }], guard := some (15, true) },
  { dst := some 77, op := Op.pick (Operand.tmp 73) (Operand.tmp 76) (Operand.const (Value.bool false)), type := 4, pos := "law.go:55", after := #[{ on := 15, ground := Ground.data }, { on := 18, ground := Ground.data }], guard := none },
  { dst := some 78, op := Op.move (Operand.tmp 77), type := 4, pos := "law.go:55", after := #[{ on := 19, ground := Ground.data }, { on := 15, ground := Ground.chain }], guard := none },
  { dst := some 79, op := Op.move (Operand.tmp 17), type := 2, pos := "law.go:55", after := #[{ on := 20, ground := Ground.guard }], guard := some (20, true) },
  { dst := some 80, op := Op.move (Operand.tmp 19), type := 2, pos := "law.go:55", after := #[{ on := 20, ground := Ground.guard }], guard := some (20, true) },
  { dst := some 81, op := Op.binOp BinOp.eql 2 (Operand.tmp 79) (Operand.tmp 80) 2, type := 4, pos := "law.go:55", after := #[{ on := 21, ground := Ground.data }, { on := 22, ground := Ground.data }, { on := 20, ground := Ground.guard }], guard := some (20, true) },
  { dst := some 82, op := Op.pick (Operand.tmp 78) (Operand.tmp 81) (Operand.const (Value.bool false)), type := 4, pos := "law.go:55", after := #[{ on := 20, ground := Ground.data }, { on := 23, ground := Ground.data }], guard := none },
  { dst := some 83, op := Op.move (Operand.tmp 82), type := 4, pos := "law.go:55", after := #[{ on := 24, ground := Ground.data }, { on := 20, ground := Ground.chain }], guard := none },
  { dst := some 84, op := Op.move (Operand.tmp 18), type := 25, pos := "law.go:55", after := #[{ on := 25, ground := Ground.guard }], guard := some (25, true) },
  { dst := some 85, op := Op.move (Operand.tmp 20), type := 25, pos := "law.go:55", after := #[{ on := 25, ground := Ground.guard }], guard := some (25, true) },
  { dst := some 86, op := Op.binOp BinOp.eql 25 (Operand.tmp 84) (Operand.tmp 85) 25, type := 4, pos := "law.go:55", after := #[{ on := 26, ground := Ground.data }, { on := 27, ground := Ground.data }, { on := 25, ground := Ground.guard }], guard := some (25, true) },
  { dst := some 87, op := Op.pick (Operand.tmp 83) (Operand.tmp 86) (Operand.const (Value.bool false)), type := 4, pos := "law.go:55", after := #[{ on := 25, ground := Ground.data }, { on := 28, ground := Ground.data }], guard := none },
  { dst := some 88, op := Op.move (Operand.tmp 87), type := 4, pos := "law.go:55", after := #[{ on := 29, ground := Ground.data }, { on := 25, ground := Ground.chain }], guard := none },
  { dst := some 89, op := Op.load 24 (Operand.tmp 4), type := 24, pos := "law.go:55", after := #[{ on := 30, ground := Ground.guard }], guard := some (30, true) },
  { dst := some 90, op := Op.call { callee := Callee.value (Operand.func 18), args := #[Operand.tmp 89], argTypes := #[24] }, type := 4, pos := "law.go:55", after := #[{ on := 31, ground := Ground.data }, { on := 30, ground := Ground.chain }, { on := 30, ground := Ground.guard }], guard := some (30, true) },
  { dst := some 91, op := Op.load 24 (Operand.tmp 4), type := 24, pos := "law.go:55", after := #[{ on := 30, ground := Ground.guard }], guard := some (30, true) },
  { dst := some 92, op := Op.call { callee := Callee.value (Operand.func 17), args := #[Operand.tmp 91], argTypes := #[24] }, type := 33, pos := "law.go:55", after := #[{ on := 33, ground := Ground.data }, { on := 32, ground := Ground.chain }, { on := 30, ground := Ground.guard }], guard := some (30, true) },
  { dst := some 93, op := Op.call { callee := Callee.value (Operand.func 19), args := #[Operand.tmp 92], argTypes := #[33] }, type := 4, pos := "law.go:55", after := #[{ on := 34, ground := Ground.data }, { on := 34, ground := Ground.chain }, { on := 30, ground := Ground.guard }], guard := some (30, true) },
  { dst := some 94, op := Op.binOp BinOp.eql 4 (Operand.tmp 90) (Operand.tmp 93) 4, type := 4, pos := "law.go:55", after := #[{ on := 32, ground := Ground.data }, { on := 35, ground := Ground.data }, { on := 30, ground := Ground.guard }], guard := some (30, true) },
  { dst := some 95, op := Op.pick (Operand.tmp 88) (Operand.tmp 94) (Operand.const (Value.bool false)), type := 4, pos := "law.go:55", after := #[{ on := 30, ground := Ground.data }, { on := 36, ground := Ground.data }], guard := none },
  { dst := some 96, op := Op.move (Operand.tmp 95), type := 4, pos := "law.go:55", after := #[{ on := 37, ground := Ground.data }, { on := 35, ground := Ground.chain }], guard := none },
  { dst := some 97, op := Op.load 24 (Operand.tmp 4), type := 24, pos := "law.go:55", after := #[{ on := 38, ground := Ground.guard }], guard := some (38, true) },
  { dst := some 98, op := Op.call { callee := Callee.value (Operand.func 12), args := #[Operand.tmp 97], argTypes := #[24] }, type := 2, pos := "law.go:55", after := #[{ on := 39, ground := Ground.data }, { on := 38, ground := Ground.chain }, { on := 38, ground := Ground.guard }], guard := some (38, true) },
  { dst := some 99, op := Op.load 24 (Operand.tmp 4), type := 24, pos := "law.go:55", after := #[{ on := 38, ground := Ground.guard }], guard := some (38, true) },
  { dst := some 100, op := Op.call { callee := Callee.value (Operand.func 17), args := #[Operand.tmp 99], argTypes := #[24] }, type := 33, pos := "law.go:55", after := #[{ on := 41, ground := Ground.data }, { on := 40, ground := Ground.chain }, { on := 38, ground := Ground.guard }], guard := some (38, true) },
  { dst := some 101, op := Op.call { callee := Callee.value (Operand.func 20), args := #[Operand.tmp 100], argTypes := #[33] }, type := 2, pos := "law.go:55", after := #[{ on := 42, ground := Ground.data }, { on := 42, ground := Ground.chain }, { on := 38, ground := Ground.guard }], guard := some (38, true) },
  { dst := some 102, op := Op.binOp BinOp.eql 2 (Operand.tmp 98) (Operand.tmp 101) 2, type := 4, pos := "law.go:55", after := #[{ on := 40, ground := Ground.data }, { on := 43, ground := Ground.data }, { on := 38, ground := Ground.guard }], guard := some (38, true) },
  { dst := some 103, op := Op.pick (Operand.tmp 96) (Operand.tmp 102) (Operand.const (Value.bool false)), type := 4, pos := "law.go:55", after := #[{ on := 38, ground := Ground.data }, { on := 44, ground := Ground.data }], guard := none },
  { dst := some 104, op := Op.move (Operand.tmp 103), type := 4, pos := "law.go:55", after := #[{ on := 45, ground := Ground.data }, { on := 43, ground := Ground.chain }], guard := none },
  { dst := some 105, op := Op.load 24 (Operand.tmp 4), type := 24, pos := "law.go:55", after := #[{ on := 46, ground := Ground.guard }], guard := some (46, true) },
  { dst := some 106, op := Op.call { callee := Callee.value (Operand.func 13), args := #[Operand.tmp 105], argTypes := #[24] }, type := 9, pos := "law.go:55", after := #[{ on := 47, ground := Ground.data }, { on := 46, ground := Ground.chain }, { on := 46, ground := Ground.guard }], guard := some (46, true) },
  { dst := some 107, op := Op.load 24 (Operand.tmp 4), type := 24, pos := "law.go:55", after := #[{ on := 46, ground := Ground.guard }], guard := some (46, true) },
  { dst := some 108, op := Op.call { callee := Callee.value (Operand.func 17), args := #[Operand.tmp 107], argTypes := #[24] }, type := 33, pos := "law.go:55", after := #[{ on := 49, ground := Ground.data }, { on := 48, ground := Ground.chain }, { on := 46, ground := Ground.guard }], guard := some (46, true) },
  { dst := some 109, op := Op.call { callee := Callee.value (Operand.func 21), args := #[Operand.tmp 108], argTypes := #[33] }, type := 9, pos := "law.go:55", after := #[{ on := 50, ground := Ground.data }, { on := 50, ground := Ground.chain }, { on := 46, ground := Ground.guard }], guard := some (46, true) },
  { dst := some 110, op := Op.binOp BinOp.eql 9 (Operand.tmp 106) (Operand.tmp 109) 9, type := 4, pos := "law.go:55", after := #[{ on := 48, ground := Ground.data }, { on := 51, ground := Ground.data }, { on := 46, ground := Ground.guard }], guard := some (46, true) },
  { dst := some 111, op := Op.pick (Operand.tmp 104) (Operand.tmp 110) (Operand.const (Value.bool false)), type := 4, pos := "law.go:55", after := #[{ on := 46, ground := Ground.data }, { on := 52, ground := Ground.data }], guard := none },
  { dst := some 8, op := Op.assign (Operand.tmp 111), type := 4, pos := "law.go:55", after := #[{ on := 53, ground := Ground.data }, { on := 51, ground := Ground.chain }, { on := 0, ground := Ground.phase }, { on := 1, ground := Ground.phase }, { on := 2, ground := Ground.phase }, { on := 3, ground := Ground.phase }, { on := 4, ground := Ground.phase }, { on := 5, ground := Ground.phase }, { on := 6, ground := Ground.phase }, { on := 7, ground := Ground.phase }, { on := 8, ground := Ground.phase }, { on := 9, ground := Ground.phase }, { on := 10, ground := Ground.phase }, { on := 11, ground := Ground.phase }, { on := 12, ground := Ground.phase }, { on := 13, ground := Ground.phase }, { on := 14, ground := Ground.phase }, { on := 15, ground := Ground.phase }, { on := 16, ground := Ground.phase }, { on := 17, ground := Ground.phase }, { on := 18, ground := Ground.phase }, { on := 19, ground := Ground.phase }, { on := 20, ground := Ground.phase }, { on := 21, ground := Ground.phase }, { on := 22, ground := Ground.phase }, { on := 23, ground := Ground.phase }, { on := 24, ground := Ground.phase }, { on := 25, ground := Ground.phase }, { on := 26, ground := Ground.phase }, { on := 27, ground := Ground.phase }, { on := 28, ground := Ground.phase }, { on := 29, ground := Ground.phase }, { on := 30, ground := Ground.phase }, { on := 31, ground := Ground.phase }, { on := 32, ground := Ground.phase }, { on := 33, ground := Ground.phase }, { on := 34, ground := Ground.phase }, { on := 35, ground := Ground.phase }, { on := 36, ground := Ground.phase }, { on := 37, ground := Ground.phase }, { on := 38, ground := Ground.phase }, { on := 39, ground := Ground.phase }, { on := 40, ground := Ground.phase }, { on := 41, ground := Ground.phase }, { on := 42, ground := Ground.phase }, { on := 43, ground := Ground.phase }, { on := 44, ground := Ground.phase }, { on := 45, ground := Ground.phase }, { on := 46, ground := Ground.phase }, { on := 47, ground := Ground.phase }, { on := 48, ground := Ground.phase }, { on := 49, ground := Ground.phase }, { on := 50, ground := Ground.phase }, { on := 51, ground := Ground.phase }, { on := 52, ground := Ground.phase }, { on := 53, ground := Ground.phase }], guard := none }]

def dtsyVals (b4 b9 b11 b13 b15 : Nat) (d0 d1 d2 d3 d4 d5 d6 u0 u1 u2 u3 u4 u5 u6 v0 v1 v2 v3 v4 v5 v6 : Int) (er1 er2 er3 nn un : Int) (gb : Bool) (sh : ByteArray) : List (Nat × Nat × Value) := [(0, 58, .agg #[.int .i64 u0, .int .i64 u1, .int .i64 u2, .int .i64 u3, .int .i64 u4, .int .i64 u5, .int .i64 u6]), (2, 60, .agg #[.int .i64 u0, .int .i64 u1, .int .i64 u2, .int .i64 u3, .int .i64 u4, .int .i64 u5, .int .i64 u6]), (3, 61, .bool true), (4, 62, .bool true), (5, 63, .int .i64 er1), (6, 64, .int .i64 er1), (7, 65, .bool true), (8, 66, .bool true), (9, 67, .bool true), (10, 68, .agg #[.int .i64 v0, .int .i64 v1, .int .i64 v2, .int .i64 v3, .int .i64 v4, .int .i64 v5, .int .i64 v6]), (12, 70, .agg #[.int .i64 v0, .int .i64 v1, .int .i64 v2, .int .i64 v3, .int .i64 v4, .int .i64 v5, .int .i64 v6]), (13, 71, .bool true), (14, 72, .bool true), (15, 73, .bool true), (16, 74, .int .i64 er2), (17, 75, .int .i64 er2), (18, 76, .bool true), (19, 77, .bool true), (20, 78, .bool true), (21, 79, .int .i64 nn), (22, 80, .int .i64 nn), (23, 81, .bool true), (24, 82, .bool true), (25, 83, .bool true), (26, 84, .int .i64 er3), (27, 85, .int .i64 er3), (28, 86, .bool true), (29, 87, .bool true), (30, 88, .bool true), (31, 89, .agg #[.int .i64 d0, .int .i64 d1, .int .i64 d2, .int .i64 d3, .int .i64 d4, .int .i64 d5, .int .i64 d6]), (33, 91, .agg #[.int .i64 d0, .int .i64 d1, .int .i64 d2, .int .i64 d3, .int .i64 d4, .int .i64 d5, .int .i64 d6]), (36, 94, .bool true), (37, 95, .bool true), (38, 96, .bool true), (39, 97, .agg #[.int .i64 d0, .int .i64 d1, .int .i64 d2, .int .i64 d3, .int .i64 d4, .int .i64 d5, .int .i64 d6]), (41, 99, .agg #[.int .i64 d0, .int .i64 d1, .int .i64 d2, .int .i64 d3, .int .i64 d4, .int .i64 d5, .int .i64 d6]), (44, 102, .bool true), (45, 103, .bool true), (46, 104, .bool true), (47, 105, .agg #[.int .i64 d0, .int .i64 d1, .int .i64 d2, .int .i64 d3, .int .i64 d4, .int .i64 d5, .int .i64 d6]), (49, 107, .agg #[.int .i64 d0, .int .i64 d1, .int .i64 d2, .int .i64 d3, .int .i64 d4, .int .i64 d5, .int .i64 d6]), (52, 110, .bool true), (53, 111, .bool true), (54, 8, .bool true)]
def dtsyC : List (Nat × Nat) := [(1, 59), (11, 69), (32, 90), (34, 92), (35, 93), (40, 98), (42, 100), (43, 101), (48, 106), (50, 108), (51, 109)]

theorem slX {a : Act} {t : Nat} {v : Value} (h : a.eval (.tmp t) = v) : a.tmps[t]?.getD undef = v := by rw [← ev]; exact h
set_option maxHeartbeats 16000000 in
set_option maxRecDepth 100000 in
theorem dtsy {Q : Exit → Act → World → Prop} {a0 : Act} {wp : World} (b4 b9 b11 b13 b15 : Nat) (d0 d1 d2 d3 d4 d5 d6 u0 u1 u2 u3 u4 u5 u6 v0 v1 v2 v3 v4 v5 v6 : Int) (er1 er2 er3 nn un : Int) (gb : Bool) (sh : ByteArray) (S : Nat → (Nat → Value) → World → Prop)
    (hsz : 111 < a0.tmps.size) (in4 : a0.eval (.tmp 4) = .pointer (some ⟨b4, 0, none⟩)) (in9 : a0.eval (.tmp 9) = .pointer (some ⟨b9, 0, none⟩)) (in10 : a0.eval (.tmp 10) = .int .i64 er1) (in11 : a0.eval (.tmp 11) = .pointer (some ⟨b11, 0, none⟩)) (in12 : a0.eval (.tmp 12) = .int .i64 er1) (in13 : a0.eval (.tmp 13) = .pointer (some ⟨b13, 0, none⟩)) (in14 : a0.eval (.tmp 14) = .int .i64 er2) (in15 : a0.eval (.tmp 15) = .pointer (some ⟨b15, 0, none⟩)) (in16 : a0.eval (.tmp 16) = .int .i64 er2) (in17 : a0.eval (.tmp 17) = .int .i64 nn) (in18 : a0.eval (.tmp 18) = .int .i64 er3) (in19 : a0.eval (.tmp 19) = .int .i64 nn) (in20 : a0.eval (.tmp 20) = .int .i64 er3)
    (hb4 : ∀ p R w, S p R w → w.cell? ⟨b4, 0, none⟩ = some (.int .i64 d0) ∧ w.cell? ⟨b4, 1, none⟩ = some (.int .i64 d1) ∧ w.cell? ⟨b4, 2, none⟩ = some (.int .i64 d2) ∧ w.cell? ⟨b4, 3, none⟩ = some (.int .i64 d3) ∧ w.cell? ⟨b4, 4, none⟩ = some (.int .i64 d4) ∧ w.cell? ⟨b4, 5, none⟩ = some (.int .i64 d5) ∧ w.cell? ⟨b4, 6, none⟩ = some (.int .i64 d6))
    (hb9 : ∀ p R w, S p R w → w.cell? ⟨b9, 0, none⟩ = some (.int .i64 u0) ∧ w.cell? ⟨b9, 1, none⟩ = some (.int .i64 u1) ∧ w.cell? ⟨b9, 2, none⟩ = some (.int .i64 u2) ∧ w.cell? ⟨b9, 3, none⟩ = some (.int .i64 u3) ∧ w.cell? ⟨b9, 4, none⟩ = some (.int .i64 u4) ∧ w.cell? ⟨b9, 5, none⟩ = some (.int .i64 u5) ∧ w.cell? ⟨b9, 6, none⟩ = some (.int .i64 u6))
    (hb11 : ∀ p R w, S p R w → w.cell? ⟨b11, 0, none⟩ = some (.int .i64 u0) ∧ w.cell? ⟨b11, 1, none⟩ = some (.int .i64 u1) ∧ w.cell? ⟨b11, 2, none⟩ = some (.int .i64 u2) ∧ w.cell? ⟨b11, 3, none⟩ = some (.int .i64 u3) ∧ w.cell? ⟨b11, 4, none⟩ = some (.int .i64 u4) ∧ w.cell? ⟨b11, 5, none⟩ = some (.int .i64 u5) ∧ w.cell? ⟨b11, 6, none⟩ = some (.int .i64 u6))
    (hb13 : ∀ p R w, S p R w → w.cell? ⟨b13, 0, none⟩ = some (.int .i64 v0) ∧ w.cell? ⟨b13, 1, none⟩ = some (.int .i64 v1) ∧ w.cell? ⟨b13, 2, none⟩ = some (.int .i64 v2) ∧ w.cell? ⟨b13, 3, none⟩ = some (.int .i64 v3) ∧ w.cell? ⟨b13, 4, none⟩ = some (.int .i64 v4) ∧ w.cell? ⟨b13, 5, none⟩ = some (.int .i64 v5) ∧ w.cell? ⟨b13, 6, none⟩ = some (.int .i64 v6))
    (hb15 : ∀ p R w, S p R w → w.cell? ⟨b15, 0, none⟩ = some (.int .i64 v0) ∧ w.cell? ⟨b15, 1, none⟩ = some (.int .i64 v1) ∧ w.cell? ⟨b15, 2, none⟩ = some (.int .i64 v2) ∧ w.cell? ⟨b15, 3, none⟩ = some (.int .i64 v3) ∧ w.cell? ⟨b15, 4, none⟩ = some (.int .i64 v4) ∧ w.cell? ⟨b15, 5, none⟩ = some (.int .i64 v5) ∧ w.cell? ⟨b15, 6, none⟩ = some (.int .i64 v6))
    (hv : ∀ p R w, S p R w → ∀ j v, j < p → ([.agg #[.int .i64 u0, .int .i64 u1, .int .i64 u2, .int .i64 u3, .int .i64 u4, .int .i64 u5, .int .i64 u6], .agg #[.int .i64 v0, .int .i64 v1, .int .i64 v2, .int .i64 v3, .int .i64 v4, .int .i64 v5, .int .i64 v6], .bool gb, .agg #[.int .i64 d0, .int .i64 d1, .int .i64 d2, .int .i64 d3, .int .i64 d4, .int .i64 d5, .int .i64 d6], .bool gb, .int .i64 un, .agg #[.int .i64 d0, .int .i64 d1, .int .i64 d2, .int .i64 d3, .int .i64 d4, .int .i64 d5, .int .i64 d6], .int .i64 un, .string sh, .agg #[.int .i64 d0, .int .i64 d1, .int .i64 d2, .int .i64 d3, .int .i64 d4, .int .i64 d5, .int .i64 d6], .string sh] : List Value)[j]? = some v → R j = v)
    (f0 : ∀ R w, S 0 R w → Calls Tryd.prog 17 #[.agg #[.int .i64 u0, .int .i64 u1, .int .i64 u2, .int .i64 u3, .int .i64 u4, .int .i64 u5, .int .i64 u6]] w fun e w' => ∃ v, e = .returned v ∧ S 1 (setR R 0 v) w')
    (f1 : ∀ R w, S 1 R w → Calls Tryd.prog 17 #[.agg #[.int .i64 v0, .int .i64 v1, .int .i64 v2, .int .i64 v3, .int .i64 v4, .int .i64 v5, .int .i64 v6]] w fun e w' => ∃ v, e = .returned v ∧ S 2 (setR R 1 v) w')
    (f2 : ∀ R w, S 2 R w → Calls Tryd.prog 18 #[.agg #[.int .i64 d0, .int .i64 d1, .int .i64 d2, .int .i64 d3, .int .i64 d4, .int .i64 d5, .int .i64 d6]] w fun e w' => ∃ v, e = .returned v ∧ S 3 (setR R 2 v) w')
    (f3 : ∀ R w, S 3 R w → Calls Tryd.prog 17 #[.agg #[.int .i64 d0, .int .i64 d1, .int .i64 d2, .int .i64 d3, .int .i64 d4, .int .i64 d5, .int .i64 d6]] w fun e w' => ∃ v, e = .returned v ∧ S 4 (setR R 3 v) w')
    (f4 : ∀ R w, S 4 R w → Calls Tryd.prog 19 #[R 3] w fun e w' => ∃ v, e = .returned v ∧ S 5 (setR R 4 v) w')
    (f5 : ∀ R w, S 5 R w → Calls Tryd.prog 12 #[.agg #[.int .i64 d0, .int .i64 d1, .int .i64 d2, .int .i64 d3, .int .i64 d4, .int .i64 d5, .int .i64 d6]] w fun e w' => ∃ v, e = .returned v ∧ S 6 (setR R 5 v) w')
    (f6 : ∀ R w, S 6 R w → Calls Tryd.prog 17 #[.agg #[.int .i64 d0, .int .i64 d1, .int .i64 d2, .int .i64 d3, .int .i64 d4, .int .i64 d5, .int .i64 d6]] w fun e w' => ∃ v, e = .returned v ∧ S 7 (setR R 6 v) w')
    (f7 : ∀ R w, S 7 R w → Calls Tryd.prog 20 #[R 6] w fun e w' => ∃ v, e = .returned v ∧ S 8 (setR R 7 v) w')
    (f8 : ∀ R w, S 8 R w → Calls Tryd.prog 13 #[.agg #[.int .i64 d0, .int .i64 d1, .int .i64 d2, .int .i64 d3, .int .i64 d4, .int .i64 d5, .int .i64 d6]] w fun e w' => ∃ v, e = .returned v ∧ S 9 (setR R 8 v) w')
    (f9 : ∀ R w, S 9 R w → Calls Tryd.prog 17 #[.agg #[.int .i64 d0, .int .i64 d1, .int .i64 d2, .int .i64 d3, .int .i64 d4, .int .i64 d5, .int .i64 d6]] w fun e w' => ∃ v, e = .returned v ∧ S 10 (setR R 9 v) w')
    (f10 : ∀ R w, S 10 R w → Calls Tryd.prog 21 #[R 9] w fun e w' => ∃ v, e = .returned v ∧ S 11 (setR R 10 v) w')
    (hS : S 0 (resOf dtsyC fun t => a0.eval (.tmp t)) wp.drew)
    (fin : ∀ a w, Fr [58, 59, 60, 61, 62, 63, 64, 65, 66, 67, 68, 69, 70, 71, 72, 73, 74, 75, 76, 77, 78, 79, 80, 81, 82, 83, 84, 85, 86, 87, 88, 89, 90, 91, 92, 93, 94, 95, 96, 97, 98, 99, 100, 101, 102, 103, 104, 105, 106, 107, 108, 109, 110, 111, 8] a0 a → a.eval (.tmp 8) = .bool true → S 11 (resOf dtsyC fun t => a.eval (.tmp t)) w → Q .normal a w) :
    (Code.region 11 opsDtsy true).wp Tryd.prog Q a0 wp := by
  refine region_inv (by kernel_rfl) [58, 59, 60, 61, 62, 63, 64, 65, 66, 67, 68, 69, 70, 71, 72, 73, 74, 75, 76, 77, 78, 79, 80, 81, 82, 83, 84, 85, 86, 87, 88, 89, 90, 91, 92, 93, 94, 95, 96, 97, 98, 99, 100, 101, 102, 103, 104, 105, 106, 107, 108, 109, 110, 111, 8] (by kernel_rfl) (by kernel_rfl) (fun t ht => by simp at ht; omega) (GV (dtsyVals b4 b9 b11 b13 b15 d0 d1 d2 d3 d4 d5 d6 u0 u1 u2 u3 u4 u5 u6 v0 v1 v2 v3 v4 v5 v6 er1 er2 er3 nn un gb sh) dtsyC S) (.start hS) ?_
    (fun L a w hf hall hG => fin a w hf (hG.val 43 54 8 _ rfl (hall 54 (by decide))) (hG.fin (fun c hc => by simp [dtsyC] at hc; rcases hc with rfl | rfl | rfl | rfl | rfl | rfl | rfl | rfl | rfl | rfl | rfl <;> exact hall _ (by decide))))
  clear hS fin
  intro ix oo ho L a w hfr hG hLi hdep hcl K hK
  have e4 : a.tmps[4]?.getD undef = .pointer (some ⟨b4, 0, none⟩) := by rw [← ev]; exact (hfr.same 4 (by decide)).trans in4
  have e9 : a.tmps[9]?.getD undef = .pointer (some ⟨b9, 0, none⟩) := by rw [← ev]; exact (hfr.same 9 (by decide)).trans in9
  have e10 : a.tmps[10]?.getD undef = .int .i64 er1 := by rw [← ev]; exact (hfr.same 10 (by decide)).trans in10
  have e11 : a.tmps[11]?.getD undef = .pointer (some ⟨b11, 0, none⟩) := by rw [← ev]; exact (hfr.same 11 (by decide)).trans in11
  have e12 : a.tmps[12]?.getD undef = .int .i64 er1 := by rw [← ev]; exact (hfr.same 12 (by decide)).trans in12
  have e13 : a.tmps[13]?.getD undef = .pointer (some ⟨b13, 0, none⟩) := by rw [← ev]; exact (hfr.same 13 (by decide)).trans in13
  have e14 : a.tmps[14]?.getD undef = .int .i64 er2 := by rw [← ev]; exact (hfr.same 14 (by decide)).trans in14
  have e15 : a.tmps[15]?.getD undef = .pointer (some ⟨b15, 0, none⟩) := by rw [← ev]; exact (hfr.same 15 (by decide)).trans in15
  have e16 : a.tmps[16]?.getD undef = .int .i64 er2 := by rw [← ev]; exact (hfr.same 16 (by decide)).trans in16
  have e17 : a.tmps[17]?.getD undef = .int .i64 nn := by rw [← ev]; exact (hfr.same 17 (by decide)).trans in17
  have e18 : a.tmps[18]?.getD undef = .int .i64 er3 := by rw [← ev]; exact (hfr.same 18 (by decide)).trans in18
  have e19 : a.tmps[19]?.getD undef = .int .i64 nn := by rw [← ev]; exact (hfr.same 19 (by decide)).trans in19
  have e20 : a.tmps[20]?.getD undef = .int .i64 er3 := by rw [← ev]; exact (hfr.same 20 (by decide)).trans in20
  clear in4 in9 in10 in11 in12 in13 in14 in15 in16 in17 in18 in19 in20
  match ix, ho with
  | 0, ho =>
    simp only [opsDtsy, List.getElem?_toArray, List.getElem?_cons_zero, Option.some.injEq] at ho
    subst ho
    rw [if_pos (show Region.wanted _ _ = true from rfl)]
    obtain ⟨ph, hSp, hdone⟩ := hG.any
    have HK := Lib.hid (hK (.agg #[.int .i64 u0, .int .i64 u1, .int .i64 u2, .int .i64 u3, .int .i64 u4, .int .i64 u5, .int .i64 u6]) w (hG.quiet 0 0 58 _ rfl (by kernel_rfl) (by kernel_rfl)))
    generalize (resOf dtsyC fun t => a.eval (.tmp t)) = R at *
    obtain ⟨q0, q1, q2, q3, q4, q5, q6⟩ := hb9 _ _ _ hSp
    clear hb4 hb9 hb11 hb13 hb15 hv f0 f1 f2 f3 f4 f5 f6 f7 f8 f9 f10
    clear hSp hdone
    clear hG hcl hdep hfr hK hLi 
    go_simp
    exact HK.out
  | 1, ho =>
    simp only [opsDtsy, List.getElem?_toArray, List.getElem?_cons_succ, List.getElem?_cons_zero, Option.some.injEq] at ho
    subst ho
    have x58 := slX (hG.val 0 0 58 _ rfl (hdep ⟨0, .data⟩ (by simp) rfl))
    rw [if_pos (show Region.wanted _ _ = true from rfl)]
    have hSj := hG.at 0 (1, 59) rfl hLi (fun c h0 hc => absurd h0 (by decide))
    have hfin := fun v w' hs => hK v w' (hG.call 0 (1, 59) rfl hLi (fun c h0 hc => absurd h0 (by decide)) (by kernel_rfl) v w' hs)
    have HK := Lib.hid hfin
    generalize (resOf dtsyC fun t => a.eval (.tmp t)) = R at *
    clear hG hcl hdep hfr hK hfin hLi
    have hc := Lib.hid (f0 _ _ hSj)
    clear hSj hb4 hb9 hb11 hb13 hb15 hv f0 f1 f2 f3 f4 f5 f6 f7 f8 f9 f10
    go_simp
    go_at_call 17
    refine hc.out.mono ?_
    rintro e w' ⟨v, rfl, hs⟩
    exact HK.out v w' hs
  | 2, ho =>
    simp only [opsDtsy, List.getElem?_toArray, List.getElem?_cons_succ, List.getElem?_cons_zero, Option.some.injEq] at ho
    subst ho
    rw [if_pos (show Region.wanted _ _ = true from rfl)]
    obtain ⟨ph, hSp, hdone⟩ := hG.any
    have HK := Lib.hid (hK (.agg #[.int .i64 u0, .int .i64 u1, .int .i64 u2, .int .i64 u3, .int .i64 u4, .int .i64 u5, .int .i64 u6]) w (hG.quiet 1 2 60 _ rfl (by kernel_rfl) (by kernel_rfl)))
    generalize (resOf dtsyC fun t => a.eval (.tmp t)) = R at *
    obtain ⟨q0, q1, q2, q3, q4, q5, q6⟩ := hb11 _ _ _ hSp
    clear hb4 hb9 hb11 hb13 hb15 hv f0 f1 f2 f3 f4 f5 f6 f7 f8 f9 f10
    clear hSp hdone
    clear hG hcl hdep hfr hK hLi 
    go_simp
    exact HK.out
  | 3, ho =>
    simp only [opsDtsy, List.getElem?_toArray, List.getElem?_cons_succ, List.getElem?_cons_zero, Option.some.injEq] at ho
    subst ho
    have x60 := slX (hG.val 1 2 60 _ rfl (hdep ⟨2, .data⟩ (by simp) rfl))
    rw [if_pos (show Region.wanted _ _ = true from rfl)]
    obtain ⟨ph, hSp, hdone⟩ := hG.any
    have hd59 : 0 < ph := hdone 0 (1, 59) rfl (hdep ⟨1, .data⟩ (by simp) rfl)
    have r59 : a.tmps[59]?.getD undef = resOf dtsyC (fun t => a.eval (.tmp t)) 0 := by rw [← ev]; exact (resOf_at (C := dtsyC) (j := 0) rfl a).symm
    have HK := Lib.hid (hK (.bool true) w (hG.quiet 2 3 61 _ rfl (by kernel_rfl) (by kernel_rfl)))
    generalize (resOf dtsyC fun t => a.eval (.tmp t)) = R at *
    rw [hv _ _ _ hSp 0 _ hd59 rfl] at r59
    clear hd59
    clear hb4 hb9 hb11 hb13 hb15 hv f0 f1 f2 f3 f4 f5 f6 f7 f8 f9 f10
    clear hSp hdone
    clear hG hcl hdep hfr hK hLi 
    go_simp
    exact HK.out
  | 4, ho =>
    simp only [opsDtsy, List.getElem?_toArray, List.getElem?_cons_succ, List.getElem?_cons_zero, Option.some.injEq] at ho
    subst ho
    have x61 := slX (hG.val 2 3 61 _ rfl (hdep ⟨3, .data⟩ (by simp) rfl))
    rw [if_pos (show Region.wanted _ _ = true from rfl)]
    have HK := Lib.hid (hK (.bool true) w (hG.quiet 3 4 62 _ rfl (by kernel_rfl) (by kernel_rfl)))
    clear hG hcl hdep hfr hK hLi 
    go_simp
    exact HK.out
  | 5, ho =>
    simp only [opsDtsy, List.getElem?_toArray, List.getElem?_cons_succ, List.getElem?_cons_zero, Option.some.injEq] at ho
    subst ho
    have xg : a.tmps[62]?.getD undef = .bool true := by rw [← ev]; exact hG.val 3 4 62 _ rfl (hdep ⟨4, .guard⟩ (by simp) rfl)
    have hw := wanted_of (ops := opsDtsy) (a := a) (o := { dst := some 63, op := Op.move (Operand.tmp 10), type := 25, pos := "law.go:55", after := #[{ on := 4, ground := Ground.guard }], guard := some (4, true) }) (g := 4) (s := 62) (b := true) (b' := true) rfl rfl xg
    replace hw := hw.trans (show (true == true) = true from rfl)
    rw [if_pos hw]
    clear hw xg
    have HK := Lib.hid (hK (.int .i64 er1) w (hG.quiet 4 5 63 _ rfl (by kernel_rfl) (by kernel_rfl)))
    clear hG hcl hdep hfr hK hLi 
    go_simp
    exact HK.out
  | 6, ho =>
    simp only [opsDtsy, List.getElem?_toArray, List.getElem?_cons_succ, List.getElem?_cons_zero, Option.some.injEq] at ho
    subst ho
    have xg : a.tmps[62]?.getD undef = .bool true := by rw [← ev]; exact hG.val 3 4 62 _ rfl (hdep ⟨4, .guard⟩ (by simp) rfl)
    have hw := wanted_of (ops := opsDtsy) (a := a) (o := { dst := some 64, op := Op.move (Operand.tmp 12), type := 25, pos := "law.go:55", after := #[{ on := 4, ground := Ground.guard }], guard := some (4, true) }) (g := 4) (s := 62) (b := true) (b' := true) rfl rfl xg
    replace hw := hw.trans (show (true == true) = true from rfl)
    rw [if_pos hw]
    clear hw xg
    have HK := Lib.hid (hK (.int .i64 er1) w (hG.quiet 5 6 64 _ rfl (by kernel_rfl) (by kernel_rfl)))
    clear hG hcl hdep hfr hK hLi 
    go_simp
    exact HK.out
  | 7, ho =>
    simp only [opsDtsy, List.getElem?_toArray, List.getElem?_cons_succ, List.getElem?_cons_zero, Option.some.injEq] at ho
    subst ho
    have x63 := slX (hG.val 4 5 63 _ rfl (hdep ⟨5, .data⟩ (by simp) rfl))
    have x64 := slX (hG.val 5 6 64 _ rfl (hdep ⟨6, .data⟩ (by simp) rfl))
    have xg : a.tmps[62]?.getD undef = .bool true := by rw [← ev]; exact hG.val 3 4 62 _ rfl (hdep ⟨4, .guard⟩ (by simp) rfl)
    have hw := wanted_of (ops := opsDtsy) (a := a) (o := { dst := some 65, op := Op.binOp BinOp.eql 25 (Operand.tmp 63) (Operand.tmp 64) 25, type := 4, pos := "law.go:55", after := #[{ on := 5, ground := Ground.data }, { on := 6, ground := Ground.data }, { on := 4, ground := Ground.guard }], guard := some (4, true) }) (g := 4) (s := 62) (b := true) (b' := true) rfl rfl xg
    replace hw := hw.trans (show (true == true) = true from rfl)
    rw [if_pos hw]
    clear hw xg
    have HK := Lib.hid (hK (.bool true) w (hG.quiet 6 7 65 _ rfl (by kernel_rfl) (by kernel_rfl)))
    clear hb4 hb9 hb11 hb13 hb15 hv f0 f1 f2 f3 f4 f5 f6 f7 f8 f9 f10
    clear hG hcl hdep hfr hK hLi 
    go_simp
    exact HK.out
  | 8, ho =>
    simp only [opsDtsy, List.getElem?_toArray, List.getElem?_cons_succ, List.getElem?_cons_zero, Option.some.injEq] at ho
    subst ho
    have x62 := slX (hG.val 3 4 62 _ rfl (hdep ⟨4, .data⟩ (by simp) rfl))
    have x65 := slX (hG.val 6 7 65 _ rfl (hdep ⟨7, .data⟩ (by simp) rfl))
    rw [if_pos (show Region.wanted _ _ = true from rfl)]
    have HK := Lib.hid (hK (.bool true) w (hG.quiet 7 8 66 _ rfl (by kernel_rfl) (by kernel_rfl)))
    clear hG hcl hdep hfr hK hLi 
    go_simp
    exact HK.out
  | 9, ho =>
    simp only [opsDtsy, List.getElem?_toArray, List.getElem?_cons_succ, List.getElem?_cons_zero, Option.some.injEq] at ho
    subst ho
    have x66 := slX (hG.val 7 8 66 _ rfl (hdep ⟨8, .data⟩ (by simp) rfl))
    rw [if_pos (show Region.wanted _ _ = true from rfl)]
    have HK := Lib.hid (hK (.bool true) w (hG.quiet 8 9 67 _ rfl (by kernel_rfl) (by kernel_rfl)))
    clear hG hcl hdep hfr hK hLi 
    go_simp
    exact HK.out
  | 10, ho =>
    simp only [opsDtsy, List.getElem?_toArray, List.getElem?_cons_succ, List.getElem?_cons_zero, Option.some.injEq] at ho
    subst ho
    have xg : a.tmps[67]?.getD undef = .bool true := by rw [← ev]; exact hG.val 8 9 67 _ rfl (hdep ⟨9, .guard⟩ (by simp) rfl)
    have hw := wanted_of (ops := opsDtsy) (a := a) (o := { dst := some 68, op := Op.load 24 (Operand.tmp 13), type := 24, pos := "law.go:55", after := #[{ on := 9, ground := Ground.guard }], guard := some (9, true) }) (g := 9) (s := 67) (b := true) (b' := true) rfl rfl xg
    replace hw := hw.trans (show (true == true) = true from rfl)
    rw [if_pos hw]
    clear hw xg
    obtain ⟨ph, hSp, hdone⟩ := hG.any
    have HK := Lib.hid (hK (.agg #[.int .i64 v0, .int .i64 v1, .int .i64 v2, .int .i64 v3, .int .i64 v4, .int .i64 v5, .int .i64 v6]) w (hG.quiet 9 10 68 _ rfl (by kernel_rfl) (by kernel_rfl)))
    generalize (resOf dtsyC fun t => a.eval (.tmp t)) = R at *
    obtain ⟨q0, q1, q2, q3, q4, q5, q6⟩ := hb13 _ _ _ hSp
    clear hb4 hb9 hb11 hb13 hb15 hv f0 f1 f2 f3 f4 f5 f6 f7 f8 f9 f10
    clear hSp hdone
    clear hG hcl hdep hfr hK hLi 
    go_simp
    exact HK.out
  | 11, ho =>
    simp only [opsDtsy, List.getElem?_toArray, List.getElem?_cons_succ, List.getElem?_cons_zero, Option.some.injEq] at ho
    subst ho
    have x68 := slX (hG.val 9 10 68 _ rfl (hdep ⟨10, .data⟩ (by simp) rfl))
    have xg : a.tmps[67]?.getD undef = .bool true := by rw [← ev]; exact hG.val 8 9 67 _ rfl (hdep ⟨9, .chain⟩ (by simp) rfl)
    have hw := wanted_of (ops := opsDtsy) (a := a) (o := { dst := some 69, op := Op.call { callee := Callee.value (Operand.func 17), args := #[Operand.tmp 68], argTypes := #[24] }, type := 33, pos := "law.go:55", after := #[{ on := 10, ground := Ground.data }, { on := 9, ground := Ground.chain }, { on := 9, ground := Ground.guard }], guard := some (9, true) }) (g := 9) (s := 67) (b := true) (b' := true) rfl rfl xg
    replace hw := hw.trans (show (true == true) = true from rfl)
    rw [if_pos hw]
    clear hw xg
    have hSj := hG.at 1 (11, 69) rfl hLi (fun c h0 hc => by simp [dtsyC] at hc; subst hc; exact hcl 4 _ rfl (hcl 9 _ rfl (hdep ⟨9, .chain⟩ (by simp) rfl) ⟨4, .chain⟩ (by simp [opsDtsy]) rfl) ⟨1, .chain⟩ (by simp [opsDtsy]) rfl)
    have hfin := fun v w' hs => hK v w' (hG.call 1 (11, 69) rfl hLi (fun c h0 hc => by simp [dtsyC] at hc; subst hc; exact hcl 4 _ rfl (hcl 9 _ rfl (hdep ⟨9, .chain⟩ (by simp) rfl) ⟨4, .chain⟩ (by simp [opsDtsy]) rfl) ⟨1, .chain⟩ (by simp [opsDtsy]) rfl) (by kernel_rfl) v w' hs)
    have HK := Lib.hid hfin
    generalize (resOf dtsyC fun t => a.eval (.tmp t)) = R at *
    clear hG hcl hdep hfr hK hfin hLi
    have hc := Lib.hid (f1 _ _ hSj)
    clear hSj hb4 hb9 hb11 hb13 hb15 hv f0 f1 f2 f3 f4 f5 f6 f7 f8 f9 f10
    go_simp
    go_at_call 17
    refine hc.out.mono ?_
    rintro e w' ⟨v, rfl, hs⟩
    exact HK.out v w' hs
  | 12, ho =>
    simp only [opsDtsy, List.getElem?_toArray, List.getElem?_cons_succ, List.getElem?_cons_zero, Option.some.injEq] at ho
    subst ho
    have xg : a.tmps[67]?.getD undef = .bool true := by rw [← ev]; exact hG.val 8 9 67 _ rfl (hdep ⟨9, .guard⟩ (by simp) rfl)
    have hw := wanted_of (ops := opsDtsy) (a := a) (o := { dst := some 70, op := Op.load 33 (Operand.tmp 15), type := 33, pos := "law.go:55", after := #[{ on := 9, ground := Ground.guard }], guard := some (9, true) }) (g := 9) (s := 67) (b := true) (b' := true) rfl rfl xg
    replace hw := hw.trans (show (true == true) = true from rfl)
    rw [if_pos hw]
    clear hw xg
    obtain ⟨ph, hSp, hdone⟩ := hG.any
    have HK := Lib.hid (hK (.agg #[.int .i64 v0, .int .i64 v1, .int .i64 v2, .int .i64 v3, .int .i64 v4, .int .i64 v5, .int .i64 v6]) w (hG.quiet 10 12 70 _ rfl (by kernel_rfl) (by kernel_rfl)))
    generalize (resOf dtsyC fun t => a.eval (.tmp t)) = R at *
    obtain ⟨q0, q1, q2, q3, q4, q5, q6⟩ := hb15 _ _ _ hSp
    clear hb4 hb9 hb11 hb13 hb15 hv f0 f1 f2 f3 f4 f5 f6 f7 f8 f9 f10
    clear hSp hdone
    clear hG hcl hdep hfr hK hLi 
    go_simp
    exact HK.out
  | 13, ho =>
    simp only [opsDtsy, List.getElem?_toArray, List.getElem?_cons_succ, List.getElem?_cons_zero, Option.some.injEq] at ho
    subst ho
    have x70 := slX (hG.val 10 12 70 _ rfl (hdep ⟨12, .data⟩ (by simp) rfl))
    have xg : a.tmps[67]?.getD undef = .bool true := by rw [← ev]; exact hG.val 8 9 67 _ rfl (hdep ⟨9, .guard⟩ (by simp) rfl)
    have hw := wanted_of (ops := opsDtsy) (a := a) (o := { dst := some 71, op := Op.binOp BinOp.eql 33 (Operand.tmp 69) (Operand.tmp 70) 33, type := 4, pos := "law.go:55", after := #[{ on := 11, ground := Ground.data }, { on := 12, ground := Ground.data }, { on := 9, ground := Ground.guard }], guard := some (9, true) }) (g := 9) (s := 67) (b := true) (b' := true) rfl rfl xg
    replace hw := hw.trans (show (true == true) = true from rfl)
    rw [if_pos hw]
    clear hw xg
    obtain ⟨ph, hSp, hdone⟩ := hG.any
    have hd69 : 1 < ph := hdone 1 (11, 69) rfl (hdep ⟨11, .data⟩ (by simp) rfl)
    have r69 : a.tmps[69]?.getD undef = resOf dtsyC (fun t => a.eval (.tmp t)) 1 := by rw [← ev]; exact (resOf_at (C := dtsyC) (j := 1) rfl a).symm
    have HK := Lib.hid (hK (.bool true) w (hG.quiet 11 13 71 _ rfl (by kernel_rfl) (by kernel_rfl)))
    generalize (resOf dtsyC fun t => a.eval (.tmp t)) = R at *
    rw [hv _ _ _ hSp 1 _ hd69 rfl] at r69
    clear hd69
    clear hb4 hb9 hb11 hb13 hb15 hv f0 f1 f2 f3 f4 f5 f6 f7 f8 f9 f10
    clear hSp hdone
    clear hG hcl hdep hfr hK hLi 
    go_simp
    exact HK.out
  | 14, ho =>
    simp only [opsDtsy, List.getElem?_toArray, List.getElem?_cons_succ, List.getElem?_cons_zero, Option.some.injEq] at ho
    subst ho
    have x67 := slX (hG.val 8 9 67 _ rfl (hdep ⟨9, .data⟩ (by simp) rfl))
    have x71 := slX (hG.val 11 13 71 _ rfl (hdep ⟨13, .data⟩ (by simp) rfl))
    rw [if_pos (show Region.wanted _ _ = true from rfl)]
    have HK := Lib.hid (hK (.bool true) w (hG.quiet 12 14 72 _ rfl (by kernel_rfl) (by kernel_rfl)))
    clear hG hcl hdep hfr hK hLi 
    go_simp
    exact HK.out
  | 15, ho =>
    simp only [opsDtsy, List.getElem?_toArray, List.getElem?_cons_succ, List.getElem?_cons_zero, Option.some.injEq] at ho
    subst ho
    have x72 := slX (hG.val 12 14 72 _ rfl (hdep ⟨14, .data⟩ (by simp) rfl))
    rw [if_pos (show Region.wanted _ _ = true from rfl)]
    have HK := Lib.hid (hK (.bool true) w (hG.quiet 13 15 73 _ rfl (by kernel_rfl) (by kernel_rfl)))
    clear hG hcl hdep hfr hK hLi 
    go_simp
    exact HK.out
  | 16, ho =>
    simp only [opsDtsy, List.getElem?_toArray, List.getElem?_cons_succ, List.getElem?_cons_zero, Option.some.injEq] at ho
    subst ho
    have xg : a.tmps[73]?.getD undef = .bool true := by rw [← ev]; exact hG.val 13 15 73 _ rfl (hdep ⟨15, .guard⟩ (by simp) rfl)
    have hw := wanted_of (ops := opsDtsy) (a := a) (o := { dst := some 74, op := Op.move (Operand.tmp 14), type := 25, pos := "law.go:55", after := #[{ on := 15, ground := Ground.guard }], guard := some (15, true) }) (g := 15) (s := 73) (b := true) (b' := true) rfl rfl xg
    replace hw := hw.trans (show (true == true) = true from rfl)
    rw [if_pos hw]
    clear hw xg
    have HK := Lib.hid (hK (.int .i64 er2) w (hG.quiet 14 16 74 _ rfl (by kernel_rfl) (by kernel_rfl)))
    clear hG hcl hdep hfr hK hLi 
    go_simp
    exact HK.out
  | 17, ho =>
    simp only [opsDtsy, List.getElem?_toArray, List.getElem?_cons_succ, List.getElem?_cons_zero, Option.some.injEq] at ho
    subst ho
    have xg : a.tmps[73]?.getD undef = .bool true := by rw [← ev]; exact hG.val 13 15 73 _ rfl (hdep ⟨15, .guard⟩ (by simp) rfl)
    have hw := wanted_of (ops := opsDtsy) (a := a) (o := { dst := some 75, op := Op.move (Operand.tmp 16), type := 25, pos := "law.go:55", after := #[{ on := 15, ground := Ground.guard }], guard := some (15, true) }) (g := 15) (s := 73) (b := true) (b' := true) rfl rfl xg
    replace hw := hw.trans (show (true == true) = true from rfl)
    rw [if_pos hw]
    clear hw xg
    have HK := Lib.hid (hK (.int .i64 er2) w (hG.quiet 15 17 75 _ rfl (by kernel_rfl) (by kernel_rfl)))
    clear hG hcl hdep hfr hK hLi 
    go_simp
    exact HK.out
  | 18, ho =>
    simp only [opsDtsy, List.getElem?_toArray, List.getElem?_cons_succ, List.getElem?_cons_zero, Option.some.injEq] at ho
    subst ho
    have x74 := slX (hG.val 14 16 74 _ rfl (hdep ⟨16, .data⟩ (by simp) rfl))
    have x75 := slX (hG.val 15 17 75 _ rfl (hdep ⟨17, .data⟩ (by simp) rfl))
    have xg : a.tmps[73]?.getD undef = .bool true := by rw [← ev]; exact hG.val 13 15 73 _ rfl (hdep ⟨15, .guard⟩ (by simp) rfl)
    have hw := wanted_of (ops := opsDtsy) (a := a) (o := { dst := some 76, op := Op.binOp BinOp.eql 25 (Operand.tmp 74) (Operand.tmp 75) 25, type := 4, pos := "law.go:55", after := #[{ on := 16, ground := Ground.data }, { on := 17, ground := Ground.data }, { on := 15, ground := Ground.guard }], guard := some (15, true) }) (g := 15) (s := 73) (b := true) (b' := true) rfl rfl xg
    replace hw := hw.trans (show (true == true) = true from rfl)
    rw [if_pos hw]
    clear hw xg
    have HK := Lib.hid (hK (.bool true) w (hG.quiet 16 18 76 _ rfl (by kernel_rfl) (by kernel_rfl)))
    clear hb4 hb9 hb11 hb13 hb15 hv f0 f1 f2 f3 f4 f5 f6 f7 f8 f9 f10
    clear hG hcl hdep hfr hK hLi 
    go_simp
    exact HK.out
  | 19, ho =>
    simp only [opsDtsy, List.getElem?_toArray, List.getElem?_cons_succ, List.getElem?_cons_zero, Option.some.injEq] at ho
    subst ho
    have x73 := slX (hG.val 13 15 73 _ rfl (hdep ⟨15, .data⟩ (by simp) rfl))
    have x76 := slX (hG.val 16 18 76 _ rfl (hdep ⟨18, .data⟩ (by simp) rfl))
    rw [if_pos (show Region.wanted _ _ = true from rfl)]
    have HK := Lib.hid (hK (.bool true) w (hG.quiet 17 19 77 _ rfl (by kernel_rfl) (by kernel_rfl)))
    clear hG hcl hdep hfr hK hLi 
    go_simp
    exact HK.out
  | 20, ho =>
    simp only [opsDtsy, List.getElem?_toArray, List.getElem?_cons_succ, List.getElem?_cons_zero, Option.some.injEq] at ho
    subst ho
    have x77 := slX (hG.val 17 19 77 _ rfl (hdep ⟨19, .data⟩ (by simp) rfl))
    rw [if_pos (show Region.wanted _ _ = true from rfl)]
    have HK := Lib.hid (hK (.bool true) w (hG.quiet 18 20 78 _ rfl (by kernel_rfl) (by kernel_rfl)))
    clear hG hcl hdep hfr hK hLi 
    go_simp
    exact HK.out
  | 21, ho =>
    simp only [opsDtsy, List.getElem?_toArray, List.getElem?_cons_succ, List.getElem?_cons_zero, Option.some.injEq] at ho
    subst ho
    have xg : a.tmps[78]?.getD undef = .bool true := by rw [← ev]; exact hG.val 18 20 78 _ rfl (hdep ⟨20, .guard⟩ (by simp) rfl)
    have hw := wanted_of (ops := opsDtsy) (a := a) (o := { dst := some 79, op := Op.move (Operand.tmp 17), type := 2, pos := "law.go:55", after := #[{ on := 20, ground := Ground.guard }], guard := some (20, true) }) (g := 20) (s := 78) (b := true) (b' := true) rfl rfl xg
    replace hw := hw.trans (show (true == true) = true from rfl)
    rw [if_pos hw]
    clear hw xg
    have HK := Lib.hid (hK (.int .i64 nn) w (hG.quiet 19 21 79 _ rfl (by kernel_rfl) (by kernel_rfl)))
    clear hG hcl hdep hfr hK hLi 
    go_simp
    exact HK.out
  | 22, ho =>
    simp only [opsDtsy, List.getElem?_toArray, List.getElem?_cons_succ, List.getElem?_cons_zero, Option.some.injEq] at ho
    subst ho
    have xg : a.tmps[78]?.getD undef = .bool true := by rw [← ev]; exact hG.val 18 20 78 _ rfl (hdep ⟨20, .guard⟩ (by simp) rfl)
    have hw := wanted_of (ops := opsDtsy) (a := a) (o := { dst := some 80, op := Op.move (Operand.tmp 19), type := 2, pos := "law.go:55", after := #[{ on := 20, ground := Ground.guard }], guard := some (20, true) }) (g := 20) (s := 78) (b := true) (b' := true) rfl rfl xg
    replace hw := hw.trans (show (true == true) = true from rfl)
    rw [if_pos hw]
    clear hw xg
    have HK := Lib.hid (hK (.int .i64 nn) w (hG.quiet 20 22 80 _ rfl (by kernel_rfl) (by kernel_rfl)))
    clear hG hcl hdep hfr hK hLi 
    go_simp
    exact HK.out
  | 23, ho =>
    simp only [opsDtsy, List.getElem?_toArray, List.getElem?_cons_succ, List.getElem?_cons_zero, Option.some.injEq] at ho
    subst ho
    have x79 := slX (hG.val 19 21 79 _ rfl (hdep ⟨21, .data⟩ (by simp) rfl))
    have x80 := slX (hG.val 20 22 80 _ rfl (hdep ⟨22, .data⟩ (by simp) rfl))
    have xg : a.tmps[78]?.getD undef = .bool true := by rw [← ev]; exact hG.val 18 20 78 _ rfl (hdep ⟨20, .guard⟩ (by simp) rfl)
    have hw := wanted_of (ops := opsDtsy) (a := a) (o := { dst := some 81, op := Op.binOp BinOp.eql 2 (Operand.tmp 79) (Operand.tmp 80) 2, type := 4, pos := "law.go:55", after := #[{ on := 21, ground := Ground.data }, { on := 22, ground := Ground.data }, { on := 20, ground := Ground.guard }], guard := some (20, true) }) (g := 20) (s := 78) (b := true) (b' := true) rfl rfl xg
    replace hw := hw.trans (show (true == true) = true from rfl)
    rw [if_pos hw]
    clear hw xg
    have HK := Lib.hid (hK (.bool true) w (hG.quiet 21 23 81 _ rfl (by kernel_rfl) (by kernel_rfl)))
    clear hb4 hb9 hb11 hb13 hb15 hv f0 f1 f2 f3 f4 f5 f6 f7 f8 f9 f10
    clear hG hcl hdep hfr hK hLi 
    go_simp
    exact HK.out
  | 24, ho =>
    simp only [opsDtsy, List.getElem?_toArray, List.getElem?_cons_succ, List.getElem?_cons_zero, Option.some.injEq] at ho
    subst ho
    have x78 := slX (hG.val 18 20 78 _ rfl (hdep ⟨20, .data⟩ (by simp) rfl))
    have x81 := slX (hG.val 21 23 81 _ rfl (hdep ⟨23, .data⟩ (by simp) rfl))
    rw [if_pos (show Region.wanted _ _ = true from rfl)]
    have HK := Lib.hid (hK (.bool true) w (hG.quiet 22 24 82 _ rfl (by kernel_rfl) (by kernel_rfl)))
    clear hG hcl hdep hfr hK hLi 
    go_simp
    exact HK.out
  | 25, ho =>
    simp only [opsDtsy, List.getElem?_toArray, List.getElem?_cons_succ, List.getElem?_cons_zero, Option.some.injEq] at ho
    subst ho
    have x82 := slX (hG.val 22 24 82 _ rfl (hdep ⟨24, .data⟩ (by simp) rfl))
    rw [if_pos (show Region.wanted _ _ = true from rfl)]
    have HK := Lib.hid (hK (.bool true) w (hG.quiet 23 25 83 _ rfl (by kernel_rfl) (by kernel_rfl)))
    clear hG hcl hdep hfr hK hLi 
    go_simp
    exact HK.out
  | 26, ho =>
    simp only [opsDtsy, List.getElem?_toArray, List.getElem?_cons_succ, List.getElem?_cons_zero, Option.some.injEq] at ho
    subst ho
    have xg : a.tmps[83]?.getD undef = .bool true := by rw [← ev]; exact hG.val 23 25 83 _ rfl (hdep ⟨25, .guard⟩ (by simp) rfl)
    have hw := wanted_of (ops := opsDtsy) (a := a) (o := { dst := some 84, op := Op.move (Operand.tmp 18), type := 25, pos := "law.go:55", after := #[{ on := 25, ground := Ground.guard }], guard := some (25, true) }) (g := 25) (s := 83) (b := true) (b' := true) rfl rfl xg
    replace hw := hw.trans (show (true == true) = true from rfl)
    rw [if_pos hw]
    clear hw xg
    have HK := Lib.hid (hK (.int .i64 er3) w (hG.quiet 24 26 84 _ rfl (by kernel_rfl) (by kernel_rfl)))
    clear hG hcl hdep hfr hK hLi 
    go_simp
    exact HK.out
  | 27, ho =>
    simp only [opsDtsy, List.getElem?_toArray, List.getElem?_cons_succ, List.getElem?_cons_zero, Option.some.injEq] at ho
    subst ho
    have xg : a.tmps[83]?.getD undef = .bool true := by rw [← ev]; exact hG.val 23 25 83 _ rfl (hdep ⟨25, .guard⟩ (by simp) rfl)
    have hw := wanted_of (ops := opsDtsy) (a := a) (o := { dst := some 85, op := Op.move (Operand.tmp 20), type := 25, pos := "law.go:55", after := #[{ on := 25, ground := Ground.guard }], guard := some (25, true) }) (g := 25) (s := 83) (b := true) (b' := true) rfl rfl xg
    replace hw := hw.trans (show (true == true) = true from rfl)
    rw [if_pos hw]
    clear hw xg
    have HK := Lib.hid (hK (.int .i64 er3) w (hG.quiet 25 27 85 _ rfl (by kernel_rfl) (by kernel_rfl)))
    clear hG hcl hdep hfr hK hLi 
    go_simp
    exact HK.out
  | 28, ho =>
    simp only [opsDtsy, List.getElem?_toArray, List.getElem?_cons_succ, List.getElem?_cons_zero, Option.some.injEq] at ho
    subst ho
    have x84 := slX (hG.val 24 26 84 _ rfl (hdep ⟨26, .data⟩ (by simp) rfl))
    have x85 := slX (hG.val 25 27 85 _ rfl (hdep ⟨27, .data⟩ (by simp) rfl))
    have xg : a.tmps[83]?.getD undef = .bool true := by rw [← ev]; exact hG.val 23 25 83 _ rfl (hdep ⟨25, .guard⟩ (by simp) rfl)
    have hw := wanted_of (ops := opsDtsy) (a := a) (o := { dst := some 86, op := Op.binOp BinOp.eql 25 (Operand.tmp 84) (Operand.tmp 85) 25, type := 4, pos := "law.go:55", after := #[{ on := 26, ground := Ground.data }, { on := 27, ground := Ground.data }, { on := 25, ground := Ground.guard }], guard := some (25, true) }) (g := 25) (s := 83) (b := true) (b' := true) rfl rfl xg
    replace hw := hw.trans (show (true == true) = true from rfl)
    rw [if_pos hw]
    clear hw xg
    have HK := Lib.hid (hK (.bool true) w (hG.quiet 26 28 86 _ rfl (by kernel_rfl) (by kernel_rfl)))
    clear hb4 hb9 hb11 hb13 hb15 hv f0 f1 f2 f3 f4 f5 f6 f7 f8 f9 f10
    clear hG hcl hdep hfr hK hLi 
    go_simp
    exact HK.out
  | 29, ho =>
    simp only [opsDtsy, List.getElem?_toArray, List.getElem?_cons_succ, List.getElem?_cons_zero, Option.some.injEq] at ho
    subst ho
    have x83 := slX (hG.val 23 25 83 _ rfl (hdep ⟨25, .data⟩ (by simp) rfl))
    have x86 := slX (hG.val 26 28 86 _ rfl (hdep ⟨28, .data⟩ (by simp) rfl))
    rw [if_pos (show Region.wanted _ _ = true from rfl)]
    have HK := Lib.hid (hK (.bool true) w (hG.quiet 27 29 87 _ rfl (by kernel_rfl) (by kernel_rfl)))
    clear hG hcl hdep hfr hK hLi 
    go_simp
    exact HK.out
  | 30, ho =>
    simp only [opsDtsy, List.getElem?_toArray, List.getElem?_cons_succ, List.getElem?_cons_zero, Option.some.injEq] at ho
    subst ho
    have x87 := slX (hG.val 27 29 87 _ rfl (hdep ⟨29, .data⟩ (by simp) rfl))
    rw [if_pos (show Region.wanted _ _ = true from rfl)]
    have HK := Lib.hid (hK (.bool true) w (hG.quiet 28 30 88 _ rfl (by kernel_rfl) (by kernel_rfl)))
    clear hG hcl hdep hfr hK hLi 
    go_simp
    exact HK.out
  | 31, ho =>
    simp only [opsDtsy, List.getElem?_toArray, List.getElem?_cons_succ, List.getElem?_cons_zero, Option.some.injEq] at ho
    subst ho
    have xg : a.tmps[88]?.getD undef = .bool true := by rw [← ev]; exact hG.val 28 30 88 _ rfl (hdep ⟨30, .guard⟩ (by simp) rfl)
    have hw := wanted_of (ops := opsDtsy) (a := a) (o := { dst := some 89, op := Op.load 24 (Operand.tmp 4), type := 24, pos := "law.go:55", after := #[{ on := 30, ground := Ground.guard }], guard := some (30, true) }) (g := 30) (s := 88) (b := true) (b' := true) rfl rfl xg
    replace hw := hw.trans (show (true == true) = true from rfl)
    rw [if_pos hw]
    clear hw xg
    obtain ⟨ph, hSp, hdone⟩ := hG.any
    have HK := Lib.hid (hK (.agg #[.int .i64 d0, .int .i64 d1, .int .i64 d2, .int .i64 d3, .int .i64 d4, .int .i64 d5, .int .i64 d6]) w (hG.quiet 29 31 89 _ rfl (by kernel_rfl) (by kernel_rfl)))
    generalize (resOf dtsyC fun t => a.eval (.tmp t)) = R at *
    obtain ⟨q0, q1, q2, q3, q4, q5, q6⟩ := hb4 _ _ _ hSp
    clear hb4 hb9 hb11 hb13 hb15 hv f0 f1 f2 f3 f4 f5 f6 f7 f8 f9 f10
    clear hSp hdone
    clear hG hcl hdep hfr hK hLi 
    go_simp
    exact HK.out
  | 32, ho =>
    simp only [opsDtsy, List.getElem?_toArray, List.getElem?_cons_succ, List.getElem?_cons_zero, Option.some.injEq] at ho
    subst ho
    have x89 := slX (hG.val 29 31 89 _ rfl (hdep ⟨31, .data⟩ (by simp) rfl))
    have xg : a.tmps[88]?.getD undef = .bool true := by rw [← ev]; exact hG.val 28 30 88 _ rfl (hdep ⟨30, .chain⟩ (by simp) rfl)
    have hw := wanted_of (ops := opsDtsy) (a := a) (o := { dst := some 90, op := Op.call { callee := Callee.value (Operand.func 18), args := #[Operand.tmp 89], argTypes := #[24] }, type := 4, pos := "law.go:55", after := #[{ on := 31, ground := Ground.data }, { on := 30, ground := Ground.chain }, { on := 30, ground := Ground.guard }], guard := some (30, true) }) (g := 30) (s := 88) (b := true) (b' := true) rfl rfl xg
    replace hw := hw.trans (show (true == true) = true from rfl)
    rw [if_pos hw]
    clear hw xg
    have hSj := hG.at 2 (32, 90) rfl hLi (fun c h0 hc => by simp [dtsyC] at hc; subst hc; exact hcl 15 _ rfl (hcl 20 _ rfl (hcl 25 _ rfl (hcl 30 _ rfl (hdep ⟨30, .chain⟩ (by simp) rfl) ⟨25, .chain⟩ (by simp [opsDtsy]) rfl) ⟨20, .chain⟩ (by simp [opsDtsy]) rfl) ⟨15, .chain⟩ (by simp [opsDtsy]) rfl) ⟨11, .chain⟩ (by simp [opsDtsy]) rfl)
    have hfin := fun v w' hs => hK v w' (hG.call 2 (32, 90) rfl hLi (fun c h0 hc => by simp [dtsyC] at hc; subst hc; exact hcl 15 _ rfl (hcl 20 _ rfl (hcl 25 _ rfl (hcl 30 _ rfl (hdep ⟨30, .chain⟩ (by simp) rfl) ⟨25, .chain⟩ (by simp [opsDtsy]) rfl) ⟨20, .chain⟩ (by simp [opsDtsy]) rfl) ⟨15, .chain⟩ (by simp [opsDtsy]) rfl) ⟨11, .chain⟩ (by simp [opsDtsy]) rfl) (by kernel_rfl) v w' hs)
    have HK := Lib.hid hfin
    generalize (resOf dtsyC fun t => a.eval (.tmp t)) = R at *
    clear hG hcl hdep hfr hK hfin hLi
    have hc := Lib.hid (f2 _ _ hSj)
    clear hSj hb4 hb9 hb11 hb13 hb15 hv f0 f1 f2 f3 f4 f5 f6 f7 f8 f9 f10
    go_simp
    go_at_call 18
    refine hc.out.mono ?_
    rintro e w' ⟨v, rfl, hs⟩
    exact HK.out v w' hs
  | 33, ho =>
    simp only [opsDtsy, List.getElem?_toArray, List.getElem?_cons_succ, List.getElem?_cons_zero, Option.some.injEq] at ho
    subst ho
    have xg : a.tmps[88]?.getD undef = .bool true := by rw [← ev]; exact hG.val 28 30 88 _ rfl (hdep ⟨30, .guard⟩ (by simp) rfl)
    have hw := wanted_of (ops := opsDtsy) (a := a) (o := { dst := some 91, op := Op.load 24 (Operand.tmp 4), type := 24, pos := "law.go:55", after := #[{ on := 30, ground := Ground.guard }], guard := some (30, true) }) (g := 30) (s := 88) (b := true) (b' := true) rfl rfl xg
    replace hw := hw.trans (show (true == true) = true from rfl)
    rw [if_pos hw]
    clear hw xg
    obtain ⟨ph, hSp, hdone⟩ := hG.any
    have HK := Lib.hid (hK (.agg #[.int .i64 d0, .int .i64 d1, .int .i64 d2, .int .i64 d3, .int .i64 d4, .int .i64 d5, .int .i64 d6]) w (hG.quiet 30 33 91 _ rfl (by kernel_rfl) (by kernel_rfl)))
    generalize (resOf dtsyC fun t => a.eval (.tmp t)) = R at *
    obtain ⟨q0, q1, q2, q3, q4, q5, q6⟩ := hb4 _ _ _ hSp
    clear hb4 hb9 hb11 hb13 hb15 hv f0 f1 f2 f3 f4 f5 f6 f7 f8 f9 f10
    clear hSp hdone
    clear hG hcl hdep hfr hK hLi 
    go_simp
    exact HK.out
  | 34, ho =>
    simp only [opsDtsy, List.getElem?_toArray, List.getElem?_cons_succ, List.getElem?_cons_zero, Option.some.injEq] at ho
    subst ho
    have x91 := slX (hG.val 30 33 91 _ rfl (hdep ⟨33, .data⟩ (by simp) rfl))
    have xg : a.tmps[88]?.getD undef = .bool true := by rw [← ev]; exact hG.val 28 30 88 _ rfl (hdep ⟨30, .guard⟩ (by simp) rfl)
    have hw := wanted_of (ops := opsDtsy) (a := a) (o := { dst := some 92, op := Op.call { callee := Callee.value (Operand.func 17), args := #[Operand.tmp 91], argTypes := #[24] }, type := 33, pos := "law.go:55", after := #[{ on := 33, ground := Ground.data }, { on := 32, ground := Ground.chain }, { on := 30, ground := Ground.guard }], guard := some (30, true) }) (g := 30) (s := 88) (b := true) (b' := true) rfl rfl xg
    replace hw := hw.trans (show (true == true) = true from rfl)
    rw [if_pos hw]
    clear hw xg
    have hSj := hG.at 3 (34, 92) rfl hLi (fun c h0 hc => by simp [dtsyC] at hc; subst hc; exact hdep ⟨32, .chain⟩ (by simp) rfl)
    have hfin := fun v w' hs => hK v w' (hG.call 3 (34, 92) rfl hLi (fun c h0 hc => by simp [dtsyC] at hc; subst hc; exact hdep ⟨32, .chain⟩ (by simp) rfl) (by kernel_rfl) v w' hs)
    have HK := Lib.hid hfin
    generalize (resOf dtsyC fun t => a.eval (.tmp t)) = R at *
    clear hG hcl hdep hfr hK hfin hLi
    have hc := Lib.hid (f3 _ _ hSj)
    clear hSj hb4 hb9 hb11 hb13 hb15 hv f0 f1 f2 f3 f4 f5 f6 f7 f8 f9 f10
    go_simp
    go_at_call 17
    refine hc.out.mono ?_
    rintro e w' ⟨v, rfl, hs⟩
    exact HK.out v w' hs
  | 35, ho =>
    simp only [opsDtsy, List.getElem?_toArray, List.getElem?_cons_succ, List.getElem?_cons_zero, Option.some.injEq] at ho
    subst ho
    have xg : a.tmps[88]?.getD undef = .bool true := by rw [← ev]; exact hG.val 28 30 88 _ rfl (hdep ⟨30, .guard⟩ (by simp) rfl)
    have hw := wanted_of (ops := opsDtsy) (a := a) (o := { dst := some 93, op := Op.call { callee := Callee.value (Operand.func 19), args := #[Operand.tmp 92], argTypes := #[33] }, type := 4, pos := "law.go:55", after := #[{ on := 34, ground := Ground.data }, { on := 34, ground := Ground.chain }, { on := 30, ground := Ground.guard }], guard := some (30, true) }) (g := 30) (s := 88) (b := true) (b' := true) rfl rfl xg
    replace hw := hw.trans (show (true == true) = true from rfl)
    rw [if_pos hw]
    clear hw xg
    have hSj := hG.at 4 (35, 93) rfl hLi (fun c h0 hc => by simp [dtsyC] at hc; subst hc; exact hdep ⟨34, .data⟩ (by simp) rfl)
    have r92 : a.tmps[92]?.getD undef = resOf dtsyC (fun t => a.eval (.tmp t)) 3 := by rw [← ev]; exact (resOf_at (C := dtsyC) (j := 3) rfl a).symm
    have hfin := fun v w' hs => hK v w' (hG.call 4 (35, 93) rfl hLi (fun c h0 hc => by simp [dtsyC] at hc; subst hc; exact hdep ⟨34, .data⟩ (by simp) rfl) (by kernel_rfl) v w' hs)
    have HK := Lib.hid hfin
    generalize (resOf dtsyC fun t => a.eval (.tmp t)) = R at *
    clear hG hcl hdep hfr hK hfin hLi
    have hc := Lib.hid (f4 _ _ hSj)
    clear hSj hb4 hb9 hb11 hb13 hb15 hv f0 f1 f2 f3 f4 f5 f6 f7 f8 f9 f10
    go_simp
    go_at_call 19
    refine hc.out.mono ?_
    rintro e w' ⟨v, rfl, hs⟩
    exact HK.out v w' hs
  | 36, ho =>
    simp only [opsDtsy, List.getElem?_toArray, List.getElem?_cons_succ, List.getElem?_cons_zero, Option.some.injEq] at ho
    subst ho
    have xg : a.tmps[88]?.getD undef = .bool true := by rw [← ev]; exact hG.val 28 30 88 _ rfl (hdep ⟨30, .guard⟩ (by simp) rfl)
    have hw := wanted_of (ops := opsDtsy) (a := a) (o := { dst := some 94, op := Op.binOp BinOp.eql 4 (Operand.tmp 90) (Operand.tmp 93) 4, type := 4, pos := "law.go:55", after := #[{ on := 32, ground := Ground.data }, { on := 35, ground := Ground.data }, { on := 30, ground := Ground.guard }], guard := some (30, true) }) (g := 30) (s := 88) (b := true) (b' := true) rfl rfl xg
    replace hw := hw.trans (show (true == true) = true from rfl)
    rw [if_pos hw]
    clear hw xg
    obtain ⟨ph, hSp, hdone⟩ := hG.any
    have hd90 : 2 < ph := hdone 2 (32, 90) rfl (hdep ⟨32, .data⟩ (by simp) rfl)
    have r90 : a.tmps[90]?.getD undef = resOf dtsyC (fun t => a.eval (.tmp t)) 2 := by rw [← ev]; exact (resOf_at (C := dtsyC) (j := 2) rfl a).symm
    have hd93 : 4 < ph := hdone 4 (35, 93) rfl (hdep ⟨35, .data⟩ (by simp) rfl)
    have r93 : a.tmps[93]?.getD undef = resOf dtsyC (fun t => a.eval (.tmp t)) 4 := by rw [← ev]; exact (resOf_at (C := dtsyC) (j := 4) rfl a).symm
    have HK := Lib.hid (hK (.bool true) w (hG.quiet 31 36 94 _ rfl (by kernel_rfl) (by kernel_rfl)))
    generalize (resOf dtsyC fun t => a.eval (.tmp t)) = R at *
    rw [hv _ _ _ hSp 2 _ hd90 rfl] at r90
    rw [hv _ _ _ hSp 4 _ hd93 rfl] at r93
    clear hd90 hd93
    clear hb4 hb9 hb11 hb13 hb15 hv f0 f1 f2 f3 f4 f5 f6 f7 f8 f9 f10
    clear hSp hdone
    clear hG hcl hdep hfr hK hLi 
    go_simp
    exact HK.out
  | 37, ho =>
    simp only [opsDtsy, List.getElem?_toArray, List.getElem?_cons_succ, List.getElem?_cons_zero, Option.some.injEq] at ho
    subst ho
    have x88 := slX (hG.val 28 30 88 _ rfl (hdep ⟨30, .data⟩ (by simp) rfl))
    have x94 := slX (hG.val 31 36 94 _ rfl (hdep ⟨36, .data⟩ (by simp) rfl))
    rw [if_pos (show Region.wanted _ _ = true from rfl)]
    have HK := Lib.hid (hK (.bool true) w (hG.quiet 32 37 95 _ rfl (by kernel_rfl) (by kernel_rfl)))
    clear hG hcl hdep hfr hK hLi 
    go_simp
    exact HK.out
  | 38, ho =>
    simp only [opsDtsy, List.getElem?_toArray, List.getElem?_cons_succ, List.getElem?_cons_zero, Option.some.injEq] at ho
    subst ho
    have x95 := slX (hG.val 32 37 95 _ rfl (hdep ⟨37, .data⟩ (by simp) rfl))
    rw [if_pos (show Region.wanted _ _ = true from rfl)]
    have HK := Lib.hid (hK (.bool true) w (hG.quiet 33 38 96 _ rfl (by kernel_rfl) (by kernel_rfl)))
    clear hG hcl hdep hfr hK hLi 
    go_simp
    exact HK.out
  | 39, ho =>
    simp only [opsDtsy, List.getElem?_toArray, List.getElem?_cons_succ, List.getElem?_cons_zero, Option.some.injEq] at ho
    subst ho
    have xg : a.tmps[96]?.getD undef = .bool true := by rw [← ev]; exact hG.val 33 38 96 _ rfl (hdep ⟨38, .guard⟩ (by simp) rfl)
    have hw := wanted_of (ops := opsDtsy) (a := a) (o := { dst := some 97, op := Op.load 24 (Operand.tmp 4), type := 24, pos := "law.go:55", after := #[{ on := 38, ground := Ground.guard }], guard := some (38, true) }) (g := 38) (s := 96) (b := true) (b' := true) rfl rfl xg
    replace hw := hw.trans (show (true == true) = true from rfl)
    rw [if_pos hw]
    clear hw xg
    obtain ⟨ph, hSp, hdone⟩ := hG.any
    have HK := Lib.hid (hK (.agg #[.int .i64 d0, .int .i64 d1, .int .i64 d2, .int .i64 d3, .int .i64 d4, .int .i64 d5, .int .i64 d6]) w (hG.quiet 34 39 97 _ rfl (by kernel_rfl) (by kernel_rfl)))
    generalize (resOf dtsyC fun t => a.eval (.tmp t)) = R at *
    obtain ⟨q0, q1, q2, q3, q4, q5, q6⟩ := hb4 _ _ _ hSp
    clear hb4 hb9 hb11 hb13 hb15 hv f0 f1 f2 f3 f4 f5 f6 f7 f8 f9 f10
    clear hSp hdone
    clear hG hcl hdep hfr hK hLi 
    go_simp
    exact HK.out
  | 40, ho =>
    simp only [opsDtsy, List.getElem?_toArray, List.getElem?_cons_succ, List.getElem?_cons_zero, Option.some.injEq] at ho
    subst ho
    have x97 := slX (hG.val 34 39 97 _ rfl (hdep ⟨39, .data⟩ (by simp) rfl))
    have xg : a.tmps[96]?.getD undef = .bool true := by rw [← ev]; exact hG.val 33 38 96 _ rfl (hdep ⟨38, .chain⟩ (by simp) rfl)
    have hw := wanted_of (ops := opsDtsy) (a := a) (o := { dst := some 98, op := Op.call { callee := Callee.value (Operand.func 12), args := #[Operand.tmp 97], argTypes := #[24] }, type := 2, pos := "law.go:55", after := #[{ on := 39, ground := Ground.data }, { on := 38, ground := Ground.chain }, { on := 38, ground := Ground.guard }], guard := some (38, true) }) (g := 38) (s := 96) (b := true) (b' := true) rfl rfl xg
    replace hw := hw.trans (show (true == true) = true from rfl)
    rw [if_pos hw]
    clear hw xg
    have hSj := hG.at 5 (40, 98) rfl hLi (fun c h0 hc => by simp [dtsyC] at hc; subst hc; exact hcl 38 _ rfl (hdep ⟨38, .chain⟩ (by simp) rfl) ⟨35, .chain⟩ (by simp [opsDtsy]) rfl)
    have hfin := fun v w' hs => hK v w' (hG.call 5 (40, 98) rfl hLi (fun c h0 hc => by simp [dtsyC] at hc; subst hc; exact hcl 38 _ rfl (hdep ⟨38, .chain⟩ (by simp) rfl) ⟨35, .chain⟩ (by simp [opsDtsy]) rfl) (by kernel_rfl) v w' hs)
    have HK := Lib.hid hfin
    generalize (resOf dtsyC fun t => a.eval (.tmp t)) = R at *
    clear hG hcl hdep hfr hK hfin hLi
    have hc := Lib.hid (f5 _ _ hSj)
    clear hSj hb4 hb9 hb11 hb13 hb15 hv f0 f1 f2 f3 f4 f5 f6 f7 f8 f9 f10
    go_simp
    go_at_call 12
    refine hc.out.mono ?_
    rintro e w' ⟨v, rfl, hs⟩
    exact HK.out v w' hs
  | 41, ho =>
    simp only [opsDtsy, List.getElem?_toArray, List.getElem?_cons_succ, List.getElem?_cons_zero, Option.some.injEq] at ho
    subst ho
    have xg : a.tmps[96]?.getD undef = .bool true := by rw [← ev]; exact hG.val 33 38 96 _ rfl (hdep ⟨38, .guard⟩ (by simp) rfl)
    have hw := wanted_of (ops := opsDtsy) (a := a) (o := { dst := some 99, op := Op.load 24 (Operand.tmp 4), type := 24, pos := "law.go:55", after := #[{ on := 38, ground := Ground.guard }], guard := some (38, true) }) (g := 38) (s := 96) (b := true) (b' := true) rfl rfl xg
    replace hw := hw.trans (show (true == true) = true from rfl)
    rw [if_pos hw]
    clear hw xg
    obtain ⟨ph, hSp, hdone⟩ := hG.any
    have HK := Lib.hid (hK (.agg #[.int .i64 d0, .int .i64 d1, .int .i64 d2, .int .i64 d3, .int .i64 d4, .int .i64 d5, .int .i64 d6]) w (hG.quiet 35 41 99 _ rfl (by kernel_rfl) (by kernel_rfl)))
    generalize (resOf dtsyC fun t => a.eval (.tmp t)) = R at *
    obtain ⟨q0, q1, q2, q3, q4, q5, q6⟩ := hb4 _ _ _ hSp
    clear hb4 hb9 hb11 hb13 hb15 hv f0 f1 f2 f3 f4 f5 f6 f7 f8 f9 f10
    clear hSp hdone
    clear hG hcl hdep hfr hK hLi 
    go_simp
    exact HK.out
  | 42, ho =>
    simp only [opsDtsy, List.getElem?_toArray, List.getElem?_cons_succ, List.getElem?_cons_zero, Option.some.injEq] at ho
    subst ho
    have x99 := slX (hG.val 35 41 99 _ rfl (hdep ⟨41, .data⟩ (by simp) rfl))
    have xg : a.tmps[96]?.getD undef = .bool true := by rw [← ev]; exact hG.val 33 38 96 _ rfl (hdep ⟨38, .guard⟩ (by simp) rfl)
    have hw := wanted_of (ops := opsDtsy) (a := a) (o := { dst := some 100, op := Op.call { callee := Callee.value (Operand.func 17), args := #[Operand.tmp 99], argTypes := #[24] }, type := 33, pos := "law.go:55", after := #[{ on := 41, ground := Ground.data }, { on := 40, ground := Ground.chain }, { on := 38, ground := Ground.guard }], guard := some (38, true) }) (g := 38) (s := 96) (b := true) (b' := true) rfl rfl xg
    replace hw := hw.trans (show (true == true) = true from rfl)
    rw [if_pos hw]
    clear hw xg
    have hSj := hG.at 6 (42, 100) rfl hLi (fun c h0 hc => by simp [dtsyC] at hc; subst hc; exact hdep ⟨40, .chain⟩ (by simp) rfl)
    have hfin := fun v w' hs => hK v w' (hG.call 6 (42, 100) rfl hLi (fun c h0 hc => by simp [dtsyC] at hc; subst hc; exact hdep ⟨40, .chain⟩ (by simp) rfl) (by kernel_rfl) v w' hs)
    have HK := Lib.hid hfin
    generalize (resOf dtsyC fun t => a.eval (.tmp t)) = R at *
    clear hG hcl hdep hfr hK hfin hLi
    have hc := Lib.hid (f6 _ _ hSj)
    clear hSj hb4 hb9 hb11 hb13 hb15 hv f0 f1 f2 f3 f4 f5 f6 f7 f8 f9 f10
    go_simp
    go_at_call 17
    refine hc.out.mono ?_
    rintro e w' ⟨v, rfl, hs⟩
    exact HK.out v w' hs
  | 43, ho =>
    simp only [opsDtsy, List.getElem?_toArray, List.getElem?_cons_succ, List.getElem?_cons_zero, Option.some.injEq] at ho
    subst ho
    have xg : a.tmps[96]?.getD undef = .bool true := by rw [← ev]; exact hG.val 33 38 96 _ rfl (hdep ⟨38, .guard⟩ (by simp) rfl)
    have hw := wanted_of (ops := opsDtsy) (a := a) (o := { dst := some 101, op := Op.call { callee := Callee.value (Operand.func 20), args := #[Operand.tmp 100], argTypes := #[33] }, type := 2, pos := "law.go:55", after := #[{ on := 42, ground := Ground.data }, { on := 42, ground := Ground.chain }, { on := 38, ground := Ground.guard }], guard := some (38, true) }) (g := 38) (s := 96) (b := true) (b' := true) rfl rfl xg
    replace hw := hw.trans (show (true == true) = true from rfl)
    rw [if_pos hw]
    clear hw xg
    have hSj := hG.at 7 (43, 101) rfl hLi (fun c h0 hc => by simp [dtsyC] at hc; subst hc; exact hdep ⟨42, .data⟩ (by simp) rfl)
    have r100 : a.tmps[100]?.getD undef = resOf dtsyC (fun t => a.eval (.tmp t)) 6 := by rw [← ev]; exact (resOf_at (C := dtsyC) (j := 6) rfl a).symm
    have hfin := fun v w' hs => hK v w' (hG.call 7 (43, 101) rfl hLi (fun c h0 hc => by simp [dtsyC] at hc; subst hc; exact hdep ⟨42, .data⟩ (by simp) rfl) (by kernel_rfl) v w' hs)
    have HK := Lib.hid hfin
    generalize (resOf dtsyC fun t => a.eval (.tmp t)) = R at *
    clear hG hcl hdep hfr hK hfin hLi
    have hc := Lib.hid (f7 _ _ hSj)
    clear hSj hb4 hb9 hb11 hb13 hb15 hv f0 f1 f2 f3 f4 f5 f6 f7 f8 f9 f10
    go_simp
    go_at_call 20
    refine hc.out.mono ?_
    rintro e w' ⟨v, rfl, hs⟩
    exact HK.out v w' hs
  | 44, ho =>
    simp only [opsDtsy, List.getElem?_toArray, List.getElem?_cons_succ, List.getElem?_cons_zero, Option.some.injEq] at ho
    subst ho
    have xg : a.tmps[96]?.getD undef = .bool true := by rw [← ev]; exact hG.val 33 38 96 _ rfl (hdep ⟨38, .guard⟩ (by simp) rfl)
    have hw := wanted_of (ops := opsDtsy) (a := a) (o := { dst := some 102, op := Op.binOp BinOp.eql 2 (Operand.tmp 98) (Operand.tmp 101) 2, type := 4, pos := "law.go:55", after := #[{ on := 40, ground := Ground.data }, { on := 43, ground := Ground.data }, { on := 38, ground := Ground.guard }], guard := some (38, true) }) (g := 38) (s := 96) (b := true) (b' := true) rfl rfl xg
    replace hw := hw.trans (show (true == true) = true from rfl)
    rw [if_pos hw]
    clear hw xg
    obtain ⟨ph, hSp, hdone⟩ := hG.any
    have hd98 : 5 < ph := hdone 5 (40, 98) rfl (hdep ⟨40, .data⟩ (by simp) rfl)
    have r98 : a.tmps[98]?.getD undef = resOf dtsyC (fun t => a.eval (.tmp t)) 5 := by rw [← ev]; exact (resOf_at (C := dtsyC) (j := 5) rfl a).symm
    have hd101 : 7 < ph := hdone 7 (43, 101) rfl (hdep ⟨43, .data⟩ (by simp) rfl)
    have r101 : a.tmps[101]?.getD undef = resOf dtsyC (fun t => a.eval (.tmp t)) 7 := by rw [← ev]; exact (resOf_at (C := dtsyC) (j := 7) rfl a).symm
    have HK := Lib.hid (hK (.bool true) w (hG.quiet 36 44 102 _ rfl (by kernel_rfl) (by kernel_rfl)))
    generalize (resOf dtsyC fun t => a.eval (.tmp t)) = R at *
    rw [hv _ _ _ hSp 5 _ hd98 rfl] at r98
    rw [hv _ _ _ hSp 7 _ hd101 rfl] at r101
    clear hd98 hd101
    clear hb4 hb9 hb11 hb13 hb15 hv f0 f1 f2 f3 f4 f5 f6 f7 f8 f9 f10
    clear hSp hdone
    clear hG hcl hdep hfr hK hLi 
    go_simp
    exact HK.out
  | 45, ho =>
    simp only [opsDtsy, List.getElem?_toArray, List.getElem?_cons_succ, List.getElem?_cons_zero, Option.some.injEq] at ho
    subst ho
    have x96 := slX (hG.val 33 38 96 _ rfl (hdep ⟨38, .data⟩ (by simp) rfl))
    have x102 := slX (hG.val 36 44 102 _ rfl (hdep ⟨44, .data⟩ (by simp) rfl))
    rw [if_pos (show Region.wanted _ _ = true from rfl)]
    have HK := Lib.hid (hK (.bool true) w (hG.quiet 37 45 103 _ rfl (by kernel_rfl) (by kernel_rfl)))
    clear hG hcl hdep hfr hK hLi 
    go_simp
    exact HK.out
  | 46, ho =>
    simp only [opsDtsy, List.getElem?_toArray, List.getElem?_cons_succ, List.getElem?_cons_zero, Option.some.injEq] at ho
    subst ho
    have x103 := slX (hG.val 37 45 103 _ rfl (hdep ⟨45, .data⟩ (by simp) rfl))
    rw [if_pos (show Region.wanted _ _ = true from rfl)]
    have HK := Lib.hid (hK (.bool true) w (hG.quiet 38 46 104 _ rfl (by kernel_rfl) (by kernel_rfl)))
    clear hG hcl hdep hfr hK hLi 
    go_simp
    exact HK.out
  | 47, ho =>
    simp only [opsDtsy, List.getElem?_toArray, List.getElem?_cons_succ, List.getElem?_cons_zero, Option.some.injEq] at ho
    subst ho
    have xg : a.tmps[104]?.getD undef = .bool true := by rw [← ev]; exact hG.val 38 46 104 _ rfl (hdep ⟨46, .guard⟩ (by simp) rfl)
    have hw := wanted_of (ops := opsDtsy) (a := a) (o := { dst := some 105, op := Op.load 24 (Operand.tmp 4), type := 24, pos := "law.go:55", after := #[{ on := 46, ground := Ground.guard }], guard := some (46, true) }) (g := 46) (s := 104) (b := true) (b' := true) rfl rfl xg
    replace hw := hw.trans (show (true == true) = true from rfl)
    rw [if_pos hw]
    clear hw xg
    obtain ⟨ph, hSp, hdone⟩ := hG.any
    have HK := Lib.hid (hK (.agg #[.int .i64 d0, .int .i64 d1, .int .i64 d2, .int .i64 d3, .int .i64 d4, .int .i64 d5, .int .i64 d6]) w (hG.quiet 39 47 105 _ rfl (by kernel_rfl) (by kernel_rfl)))
    generalize (resOf dtsyC fun t => a.eval (.tmp t)) = R at *
    obtain ⟨q0, q1, q2, q3, q4, q5, q6⟩ := hb4 _ _ _ hSp
    clear hb4 hb9 hb11 hb13 hb15 hv f0 f1 f2 f3 f4 f5 f6 f7 f8 f9 f10
    clear hSp hdone
    clear hG hcl hdep hfr hK hLi 
    go_simp
    exact HK.out
  | 48, ho =>
    simp only [opsDtsy, List.getElem?_toArray, List.getElem?_cons_succ, List.getElem?_cons_zero, Option.some.injEq] at ho
    subst ho
    have x105 := slX (hG.val 39 47 105 _ rfl (hdep ⟨47, .data⟩ (by simp) rfl))
    have xg : a.tmps[104]?.getD undef = .bool true := by rw [← ev]; exact hG.val 38 46 104 _ rfl (hdep ⟨46, .chain⟩ (by simp) rfl)
    have hw := wanted_of (ops := opsDtsy) (a := a) (o := { dst := some 106, op := Op.call { callee := Callee.value (Operand.func 13), args := #[Operand.tmp 105], argTypes := #[24] }, type := 9, pos := "law.go:55", after := #[{ on := 47, ground := Ground.data }, { on := 46, ground := Ground.chain }, { on := 46, ground := Ground.guard }], guard := some (46, true) }) (g := 46) (s := 104) (b := true) (b' := true) rfl rfl xg
    replace hw := hw.trans (show (true == true) = true from rfl)
    rw [if_pos hw]
    clear hw xg
    have hSj := hG.at 8 (48, 106) rfl hLi (fun c h0 hc => by simp [dtsyC] at hc; subst hc; exact hcl 46 _ rfl (hdep ⟨46, .chain⟩ (by simp) rfl) ⟨43, .chain⟩ (by simp [opsDtsy]) rfl)
    have hfin := fun v w' hs => hK v w' (hG.call 8 (48, 106) rfl hLi (fun c h0 hc => by simp [dtsyC] at hc; subst hc; exact hcl 46 _ rfl (hdep ⟨46, .chain⟩ (by simp) rfl) ⟨43, .chain⟩ (by simp [opsDtsy]) rfl) (by kernel_rfl) v w' hs)
    have HK := Lib.hid hfin
    generalize (resOf dtsyC fun t => a.eval (.tmp t)) = R at *
    clear hG hcl hdep hfr hK hfin hLi
    have hc := Lib.hid (f8 _ _ hSj)
    clear hSj hb4 hb9 hb11 hb13 hb15 hv f0 f1 f2 f3 f4 f5 f6 f7 f8 f9 f10
    go_simp
    go_at_call 13
    refine hc.out.mono ?_
    rintro e w' ⟨v, rfl, hs⟩
    exact HK.out v w' hs
  | 49, ho =>
    simp only [opsDtsy, List.getElem?_toArray, List.getElem?_cons_succ, List.getElem?_cons_zero, Option.some.injEq] at ho
    subst ho
    have xg : a.tmps[104]?.getD undef = .bool true := by rw [← ev]; exact hG.val 38 46 104 _ rfl (hdep ⟨46, .guard⟩ (by simp) rfl)
    have hw := wanted_of (ops := opsDtsy) (a := a) (o := { dst := some 107, op := Op.load 24 (Operand.tmp 4), type := 24, pos := "law.go:55", after := #[{ on := 46, ground := Ground.guard }], guard := some (46, true) }) (g := 46) (s := 104) (b := true) (b' := true) rfl rfl xg
    replace hw := hw.trans (show (true == true) = true from rfl)
    rw [if_pos hw]
    clear hw xg
    obtain ⟨ph, hSp, hdone⟩ := hG.any
    have HK := Lib.hid (hK (.agg #[.int .i64 d0, .int .i64 d1, .int .i64 d2, .int .i64 d3, .int .i64 d4, .int .i64 d5, .int .i64 d6]) w (hG.quiet 40 49 107 _ rfl (by kernel_rfl) (by kernel_rfl)))
    generalize (resOf dtsyC fun t => a.eval (.tmp t)) = R at *
    obtain ⟨q0, q1, q2, q3, q4, q5, q6⟩ := hb4 _ _ _ hSp
    clear hb4 hb9 hb11 hb13 hb15 hv f0 f1 f2 f3 f4 f5 f6 f7 f8 f9 f10
    clear hSp hdone
    clear hG hcl hdep hfr hK hLi 
    go_simp
    exact HK.out
  | 50, ho =>
    simp only [opsDtsy, List.getElem?_toArray, List.getElem?_cons_succ, List.getElem?_cons_zero, Option.some.injEq] at ho
    subst ho
    have x107 := slX (hG.val 40 49 107 _ rfl (hdep ⟨49, .data⟩ (by simp) rfl))
    have xg : a.tmps[104]?.getD undef = .bool true := by rw [← ev]; exact hG.val 38 46 104 _ rfl (hdep ⟨46, .guard⟩ (by simp) rfl)
    have hw := wanted_of (ops := opsDtsy) (a := a) (o := { dst := some 108, op := Op.call { callee := Callee.value (Operand.func 17), args := #[Operand.tmp 107], argTypes := #[24] }, type := 33, pos := "law.go:55", after := #[{ on := 49, ground := Ground.data }, { on := 48, ground := Ground.chain }, { on := 46, ground := Ground.guard }], guard := some (46, true) }) (g := 46) (s := 104) (b := true) (b' := true) rfl rfl xg
    replace hw := hw.trans (show (true == true) = true from rfl)
    rw [if_pos hw]
    clear hw xg
    have hSj := hG.at 9 (50, 108) rfl hLi (fun c h0 hc => by simp [dtsyC] at hc; subst hc; exact hdep ⟨48, .chain⟩ (by simp) rfl)
    have hfin := fun v w' hs => hK v w' (hG.call 9 (50, 108) rfl hLi (fun c h0 hc => by simp [dtsyC] at hc; subst hc; exact hdep ⟨48, .chain⟩ (by simp) rfl) (by kernel_rfl) v w' hs)
    have HK := Lib.hid hfin
    generalize (resOf dtsyC fun t => a.eval (.tmp t)) = R at *
    clear hG hcl hdep hfr hK hfin hLi
    have hc := Lib.hid (f9 _ _ hSj)
    clear hSj hb4 hb9 hb11 hb13 hb15 hv f0 f1 f2 f3 f4 f5 f6 f7 f8 f9 f10
    go_simp
    go_at_call 17
    refine hc.out.mono ?_
    rintro e w' ⟨v, rfl, hs⟩
    exact HK.out v w' hs
  | 51, ho =>
    simp only [opsDtsy, List.getElem?_toArray, List.getElem?_cons_succ, List.getElem?_cons_zero, Option.some.injEq] at ho
    subst ho
    have xg : a.tmps[104]?.getD undef = .bool true := by rw [← ev]; exact hG.val 38 46 104 _ rfl (hdep ⟨46, .guard⟩ (by simp) rfl)
    have hw := wanted_of (ops := opsDtsy) (a := a) (o := { dst := some 109, op := Op.call { callee := Callee.value (Operand.func 21), args := #[Operand.tmp 108], argTypes := #[33] }, type := 9, pos := "law.go:55", after := #[{ on := 50, ground := Ground.data }, { on := 50, ground := Ground.chain }, { on := 46, ground := Ground.guard }], guard := some (46, true) }) (g := 46) (s := 104) (b := true) (b' := true) rfl rfl xg
    replace hw := hw.trans (show (true == true) = true from rfl)
    rw [if_pos hw]
    clear hw xg
    have hSj := hG.at 10 (51, 109) rfl hLi (fun c h0 hc => by simp [dtsyC] at hc; subst hc; exact hdep ⟨50, .data⟩ (by simp) rfl)
    have r108 : a.tmps[108]?.getD undef = resOf dtsyC (fun t => a.eval (.tmp t)) 9 := by rw [← ev]; exact (resOf_at (C := dtsyC) (j := 9) rfl a).symm
    have hfin := fun v w' hs => hK v w' (hG.call 10 (51, 109) rfl hLi (fun c h0 hc => by simp [dtsyC] at hc; subst hc; exact hdep ⟨50, .data⟩ (by simp) rfl) (by kernel_rfl) v w' hs)
    have HK := Lib.hid hfin
    generalize (resOf dtsyC fun t => a.eval (.tmp t)) = R at *
    clear hG hcl hdep hfr hK hfin hLi
    have hc := Lib.hid (f10 _ _ hSj)
    clear hSj hb4 hb9 hb11 hb13 hb15 hv f0 f1 f2 f3 f4 f5 f6 f7 f8 f9 f10
    go_simp
    go_at_call 21
    refine hc.out.mono ?_
    rintro e w' ⟨v, rfl, hs⟩
    exact HK.out v w' hs
  | 52, ho =>
    simp only [opsDtsy, List.getElem?_toArray, List.getElem?_cons_succ, List.getElem?_cons_zero, Option.some.injEq] at ho
    subst ho
    have xg : a.tmps[104]?.getD undef = .bool true := by rw [← ev]; exact hG.val 38 46 104 _ rfl (hdep ⟨46, .guard⟩ (by simp) rfl)
    have hw := wanted_of (ops := opsDtsy) (a := a) (o := { dst := some 110, op := Op.binOp BinOp.eql 9 (Operand.tmp 106) (Operand.tmp 109) 9, type := 4, pos := "law.go:55", after := #[{ on := 48, ground := Ground.data }, { on := 51, ground := Ground.data }, { on := 46, ground := Ground.guard }], guard := some (46, true) }) (g := 46) (s := 104) (b := true) (b' := true) rfl rfl xg
    replace hw := hw.trans (show (true == true) = true from rfl)
    rw [if_pos hw]
    clear hw xg
    obtain ⟨ph, hSp, hdone⟩ := hG.any
    have hd106 : 8 < ph := hdone 8 (48, 106) rfl (hdep ⟨48, .data⟩ (by simp) rfl)
    have r106 : a.tmps[106]?.getD undef = resOf dtsyC (fun t => a.eval (.tmp t)) 8 := by rw [← ev]; exact (resOf_at (C := dtsyC) (j := 8) rfl a).symm
    have hd109 : 10 < ph := hdone 10 (51, 109) rfl (hdep ⟨51, .data⟩ (by simp) rfl)
    have r109 : a.tmps[109]?.getD undef = resOf dtsyC (fun t => a.eval (.tmp t)) 10 := by rw [← ev]; exact (resOf_at (C := dtsyC) (j := 10) rfl a).symm
    have HK := Lib.hid (hK (.bool true) w (hG.quiet 41 52 110 _ rfl (by kernel_rfl) (by kernel_rfl)))
    generalize (resOf dtsyC fun t => a.eval (.tmp t)) = R at *
    rw [hv _ _ _ hSp 8 _ hd106 rfl] at r106
    rw [hv _ _ _ hSp 10 _ hd109 rfl] at r109
    clear hd106 hd109
    clear hb4 hb9 hb11 hb13 hb15 hv f0 f1 f2 f3 f4 f5 f6 f7 f8 f9 f10
    clear hSp hdone
    clear hG hcl hdep hfr hK hLi 
    go_simp
    exact HK.out
  | 53, ho =>
    simp only [opsDtsy, List.getElem?_toArray, List.getElem?_cons_succ, List.getElem?_cons_zero, Option.some.injEq] at ho
    subst ho
    have x104 := slX (hG.val 38 46 104 _ rfl (hdep ⟨46, .data⟩ (by simp) rfl))
    have x110 := slX (hG.val 41 52 110 _ rfl (hdep ⟨52, .data⟩ (by simp) rfl))
    rw [if_pos (show Region.wanted _ _ = true from rfl)]
    have HK := Lib.hid (hK (.bool true) w (hG.quiet 42 53 111 _ rfl (by kernel_rfl) (by kernel_rfl)))
    clear hG hcl hdep hfr hK hLi 
    go_simp
    exact HK.out
  | 54, ho =>
    simp only [opsDtsy, List.getElem?_toArray, List.getElem?_cons_succ, List.getElem?_cons_zero, Option.some.injEq] at ho
    subst ho
    have x111 := slX (hG.val 42 53 111 _ rfl (hdep ⟨53, .data⟩ (by simp) rfl))
    rw [if_pos (show Region.wanted _ _ = true from rfl)]
    have HK := Lib.hid (hK (.bool true) w (hG.quiet 43 54 8 _ rfl (by kernel_rfl) (by kernel_rfl)))
    clear hG hcl hdep hfr hK hLi 
    go_simp
    exact HK.out
  | n + 55, ho => exact absurd (Array.getElem?_eq_some_iff.1 ho).1 (by show ¬ n + 55 < 55; omega)
end Go.Proofs.YtgkibkophoikoaaDoor

namespace Go.Proofs.YtgkibkophoikoaaDoor
open Go.RowKit
set_option linter.unusedVariables false
set_option maxRecDepth 100000

theorem own_ret (w : World) (tmps : Array Value) (g : Nat) (hp : tmps.getD 2 undef = .pointer (some ⟨g, 0, none⟩)) (y m k hh mi s z : Int) (hg : Blk w g 33 #[.int .i64 y, .int .i64 m, .int .i64 k, .int .i64 hh, .int .i64 mi, .int .i64 s, .int .i64 z]) :
    (results Tryd.f17 tmps).run Tryd.prog w = .ok (.agg #[.int .i64 y, .int .i64 m, .int .i64 k, .int .i64 hh, .int .i64 mi, .int .i64 s, .int .i64 z]) w :=
  ret_cell1 rfl tmps w g hp _ _ hg _ Tryd.underlying33 rfl (by kernel_rfl)
theorem own_any (y m k hh mi s z : Int) (w : World) : Calls Tryd.prog 17 #[.agg #[.int .i64 y, .int .i64 m, .int .i64 k, .int .i64 hh, .int .i64 mi, .int .i64 s, .int .i64 z]] w fun e w' => e = .returned (.agg #[.int .i64 y, .int .i64 m, .int .i64 k, .int .i64 hh, .int .i64 mi, .int .i64 s, .int .i64 z]) ∧ Below w.heap.size w w' := by
  have hs : (w.alloc (.cells #[.int .i64 y, .int .i64 m, .int .i64 k, .int .i64 hh, .int .i64 mi, .int .i64 s, .int .i64 z] 24)).heap.size = w.heap.size + 1 := by simp
  have HB : Hid (Blk ((w.alloc (.cells #[.int .i64 y, .int .i64 m, .int .i64 k, .int .i64 hh, .int .i64 mi, .int .i64 s, .int .i64 z] 24)).alloc (.cells #[.int .i64 y, .int .i64 m, .int .i64 k, .int .i64 hh, .int .i64 mi, .int .i64 s, .int .i64 z] 33)) (w.heap.size + 1) 33 #[.int .i64 y, .int .i64 m, .int .i64 k, .int .i64 hh, .int .i64 mi, .int .i64 s, .int .i64 z]) := Lib.hid (by
    have := Blk.new (w.alloc (.cells #[.int .i64 y, .int .i64 m, .int .i64 k, .int .i64 hh, .int .i64 mi, .int .i64 s, .int .i64 z] 24)) 33 #[.int .i64 y, .int .i64 m, .int .i64 k, .int .i64 hh, .int .i64 mi, .int .i64 s, .int .i64 z]
    rw [hs] at this
    exact this)
  have HBEL : Hid (∀ o o', Below w.heap.size w ((w.alloc o).alloc o')) := Lib.hid (fun o o' => ((Below.refl _ _).alloc (Nat.le_refl _) o).alloc (by simp) o')
  clear hs
  go_enter Tryd.func17, Tryd.ntmps17
  go_wp2
  refine bodyPost_ret (own_ret _ _ (w.heap.size + 1) rfl y m k hh mi s z HB.out) rfl ?_
  exact ⟨rfl, HBEL.out _ _⟩

theorem ofV_form (r : Option Dt.D) : ∃ (d : Dt.D) (e : Int), ofV r = .tuple #[.agg (dcs d), .int .i64 e] := by
  cases r with
  | none => exact ⟨Dt.zero, 1, rfl⟩
  | some d => exact ⟨d, 0, rfl⟩
theorem parseV_form (r : Option Dt.D) : ∃ (d : Dt.D) (e : Int), parseV r = .tuple #[.agg (dcs d), .int .i64 e] := by
  cases r with
  | none => exact ⟨Dt.zero, 3, rfl⟩
  | some d => exact ⟨d, 0, rfl⟩
theorem dayV_form (r : Option Nat) : ∃ (n e : Int), dayV r = .tuple #[.int .i64 n, .int .i64 e] := by
  cases r with
  | none => exact ⟨0, 3, rfl⟩
  | some n => exact ⟨(n : Int), 0, rfl⟩
/-- The region under way. -/
def SyS (w0 : World) (vs : List Value) (p : Nat) (R : Nat → Value) (W : World) : Prop := Below w0.heap.size w0 W ∧ ∀ j v, j < p → vs[j]? = some v → R j = v
theorem SyS.next {w0 W W' : World} {vs : List Value} {p : Nat} {R : Nat → Value} {u : Value} (h : SyS w0 vs p R W) (hb : Below W.heap.size W W') (hu : vs[p]? = some u) : SyS w0 vs (p + 1) (setR R p u) W' := by
  refine ⟨h.1.trans (hb.mono h.1.size), fun j v hj hv => ?_⟩
  by_cases e : j = p
  · subst e; rw [setR_self]; exact Option.some.inj (hu.symm.trans hv)
  · rw [setR_ne R u e]; exact h.2 j v (by omega) hv

set_option maxHeartbeats 12800000 in
theorem dateSays_walk (d0 d1 d2 d3 d4 d5 d6 : Int) (u : Int) (wu : (Lit.int .i64 u).wf = true) (z : Int) (wz : (Lit.int .i64 z).wf = true) (s : ByteArray) (hs : s.size ≤ maxLen) (w : World) (hp : PW w) (hf : FW w) :
    Calls Tryd.prog 4 #[.agg #[.int .i64 d0, .int .i64 d1, .int .i64 d2, .int .i64 d3, .int .i64 d4, .int .i64 d5, .int .i64 d6], .int .i64 u, .int .i64 z, .string s] w fun e w' => e = .returned (.bool true) ∧ Below w.heap.size w w' := by
  have HP := Lib.hid hp
  have HF := Lib.hid hf
  have WU := Lib.hid wu
  obtain ⟨w1, Hw1⟩ : ∃ w1, Hid (w1 = w.alloc (.cells #[.int .i64 d0, .int .i64 d1, .int .i64 d2, .int .i64 d3, .int .i64 d4, .int .i64 d5, .int .i64 d6] 24)) := ⟨_, Lib.hid rfl⟩
  have HB1 : Hid (Below w.heap.size w w1) := Lib.hid (by rw [Hw1.out]; exact (Below.refl _ _).alloc (Nat.le_refl _) _)
  have HD1 : Hid (Blk w1 w.heap.size 24 #[.int .i64 d0, .int .i64 d1, .int .i64 d2, .int .i64 d3, .int .i64 d4, .int .i64 d5, .int .i64 d6]) := Lib.hid (by rw [Hw1.out]; exact Blk.new w _ _)
  clear hp hf wu wz hs
  go_enter Tryd.func4, Tryd.ntmps4
  go_wp2_with fail
  rw [← Hw1.out]
  refine (awake_any w1 (HP.out.below HB1.out)).mono ?_
  rintro e w2 ⟨rfl, b⟩
  have HB2 := Lib.hid (HB1.out.trans (b.mono HB1.out.size))
  have HD2 := Lib.hid (HD1.out.below b HD1.out.lt)
  clear b
  by_cases h60 : s.size ≤ 60
  case neg =>
    have c1 : (60 : Int) < (s.size : Int) := by omega
    go_wp2
    go_ret
    exact ⟨rfl, HB2.out⟩
  have c1 : ¬ (60 : Int) < (s.size : Int) := by omega
  have HS6 := Lib.hid (show s.size ≤ 1000000 by omega)
  clear h60
  go_wp2_with fail
  refine (of_any u z WU.out w2).mono ?_
  rintro e v3 ⟨r, hr, rfl, b⟩
  have HR := Lib.hid hr
  obtain ⟨A, er1, HA⟩ : ∃ (d : Dt.D) (e : Int), Hid (ofV r = .tuple #[.agg (dcs d), .int .i64 e]) := by
    obtain ⟨d, e, h⟩ := ofV_form r
    exact ⟨d, e, Lib.hid h⟩
  rw [HA.out]
  obtain ⟨u0, u1, u2, u3, u4, u5, u6⟩ := A
  simp only [dcs]
  have HB3 := Lib.hid (HB2.out.trans (b.mono HB2.out.size))
  have HD3 := Lib.hid (HD2.out.below b HD2.out.lt)
  obtain ⟨w4, Hw4⟩ : ∃ W, Hid (W = v3.alloc (.cells #[.int .i64 u0, .int .i64 u1, .int .i64 u2, .int .i64 u3, .int .i64 u4, .int .i64 u5, .int .i64 u6] 24)) := ⟨_, Lib.hid rfl⟩
  have HB4 : Hid (Below w.heap.size w w4) := Lib.hid (by rw [Hw4.out]; exact HB3.out.alloc HB3.out.size _)
  have HD4 : Hid (Blk w4 w.heap.size 24 #[.int .i64 d0, .int .i64 d1, .int .i64 d2, .int .i64 d3, .int .i64 d4, .int .i64 d5, .int .i64 d6]) := Lib.hid (by rw [Hw4.out]; exact HD3.out.alloc _)
  have HA4 : Hid (Blk w4 v3.heap.size 24 #[.int .i64 u0, .int .i64 u1, .int .i64 u2, .int .i64 u3, .int .i64 u4, .int .i64 u5, .int .i64 u6]) := Lib.hid (by rw [Hw4.out]; exact Blk.new v3 _ _)
  clear b hr
  go_wp2_with fail
  rw [← Hw4.out]
  refine (rof_any u z WU.out w4).mono ?_
  rintro e v5 ⟨r', hr', rfl, b⟩
  obtain rfl := Dt.OfR.one HR.out hr'
  rw [HA.out]
  simp only [dcs]
  have HB5 := Lib.hid (HB4.out.trans (b.mono HB4.out.size))
  have HD5 := Lib.hid (HD4.out.below b HD4.out.lt)
  have HA5 := Lib.hid (HA4.out.below b HA4.out.lt)
  obtain ⟨w6, Hw6⟩ : ∃ W, Hid (W = v5.alloc (.cells #[.int .i64 u0, .int .i64 u1, .int .i64 u2, .int .i64 u3, .int .i64 u4, .int .i64 u5, .int .i64 u6] 33)) := ⟨_, Lib.hid rfl⟩
  have HB6 : Hid (Below w.heap.size w w6) := Lib.hid (by rw [Hw6.out]; exact HB5.out.alloc HB5.out.size _)
  have HD6 : Hid (Blk w6 w.heap.size 24 #[.int .i64 d0, .int .i64 d1, .int .i64 d2, .int .i64 d3, .int .i64 d4, .int .i64 d5, .int .i64 d6]) := Lib.hid (by rw [Hw6.out]; exact HD5.out.alloc _)
  have HA6 : Hid (Blk w6 v3.heap.size 24 #[.int .i64 u0, .int .i64 u1, .int .i64 u2, .int .i64 u3, .int .i64 u4, .int .i64 u5, .int .i64 u6]) := Lib.hid (by rw [Hw6.out]; exact HA5.out.alloc _)
  have HC6 : Hid (Blk w6 v5.heap.size 33 #[.int .i64 u0, .int .i64 u1, .int .i64 u2, .int .i64 u3, .int .i64 u4, .int .i64 u5, .int .i64 u6]) := Lib.hid (by rw [Hw6.out]; exact Blk.new v5 _ _)
  clear b hr'
  go_wp2_with fail
  rw [← Hw6.out]
  refine (parse_any s w6 (HP.out.below HB6.out) (HF.out.below HB6.out)).mono ?_
  rintro e v7 ⟨q, hq, rfl, b⟩
  have HQ := Lib.hid hq
  obtain ⟨X, er2, HX⟩ : ∃ (d : Dt.D) (e : Int), Hid (parseV q = .tuple #[.agg (dcs d), .int .i64 e]) := by
    obtain ⟨d, e, h⟩ := parseV_form q
    exact ⟨d, e, Lib.hid h⟩
  rw [HX.out]
  obtain ⟨v0, v1, v2, v3', v4, v5', v6⟩ := X
  simp only [dcs]
  have HB7 := Lib.hid (HB6.out.trans (b.mono HB6.out.size))
  have HD7 := Lib.hid (HD6.out.below b HD6.out.lt)
  have HA7 := Lib.hid (HA6.out.below b HA6.out.lt)
  have HC7 := Lib.hid (HC6.out.below b HC6.out.lt)
  obtain ⟨w8, Hw8⟩ : ∃ W, Hid (W = v7.alloc (.cells #[.int .i64 v0, .int .i64 v1, .int .i64 v2, .int .i64 v3', .int .i64 v4, .int .i64 v5', .int .i64 v6] 24)) := ⟨_, Lib.hid rfl⟩
  have HB8 : Hid (Below w.heap.size w w8) := Lib.hid (by rw [Hw8.out]; exact HB7.out.alloc HB7.out.size _)
  have HD8 : Hid (Blk w8 w.heap.size 24 #[.int .i64 d0, .int .i64 d1, .int .i64 d2, .int .i64 d3, .int .i64 d4, .int .i64 d5, .int .i64 d6]) := Lib.hid (by rw [Hw8.out]; exact HD7.out.alloc _)
  have HA8 : Hid (Blk w8 v3.heap.size 24 #[.int .i64 u0, .int .i64 u1, .int .i64 u2, .int .i64 u3, .int .i64 u4, .int .i64 u5, .int .i64 u6]) := Lib.hid (by rw [Hw8.out]; exact HA7.out.alloc _)
  have HC8 : Hid (Blk w8 v5.heap.size 33 #[.int .i64 u0, .int .i64 u1, .int .i64 u2, .int .i64 u3, .int .i64 u4, .int .i64 u5, .int .i64 u6]) := Lib.hid (by rw [Hw8.out]; exact HC7.out.alloc _)
  have HX8 : Hid (Blk w8 v7.heap.size 24 #[.int .i64 v0, .int .i64 v1, .int .i64 v2, .int .i64 v3', .int .i64 v4, .int .i64 v5', .int .i64 v6]) := Lib.hid (by rw [Hw8.out]; exact Blk.new v7 _ _)
  clear b hq
  go_wp2_with fail
  rw [← Hw8.out]
  refine (rparse_any s w8).mono ?_
  rintro e v9 ⟨q', hq', rfl, b⟩
  obtain rfl := Dt.ParseR.one HQ.out hq'
  rw [HX.out]
  simp only [dcs]
  have HB9 := Lib.hid (HB8.out.trans (b.mono HB8.out.size))
  have HD9 := Lib.hid (HD8.out.below b HD8.out.lt)
  have HA9 := Lib.hid (HA8.out.below b HA8.out.lt)
  have HC9 := Lib.hid (HC8.out.below b HC8.out.lt)
  have HX9 := Lib.hid (HX8.out.below b HX8.out.lt)
  obtain ⟨w10, Hw10⟩ : ∃ W, Hid (W = v9.alloc (.cells #[.int .i64 v0, .int .i64 v1, .int .i64 v2, .int .i64 v3', .int .i64 v4, .int .i64 v5', .int .i64 v6] 33)) := ⟨_, Lib.hid rfl⟩
  have HB10 : Hid (Below w.heap.size w w10) := Lib.hid (by rw [Hw10.out]; exact HB9.out.alloc HB9.out.size _)
  have HD10 : Hid (Blk w10 w.heap.size 24 #[.int .i64 d0, .int .i64 d1, .int .i64 d2, .int .i64 d3, .int .i64 d4, .int .i64 d5, .int .i64 d6]) := Lib.hid (by rw [Hw10.out]; exact HD9.out.alloc _)
  have HA10 : Hid (Blk w10 v3.heap.size 24 #[.int .i64 u0, .int .i64 u1, .int .i64 u2, .int .i64 u3, .int .i64 u4, .int .i64 u5, .int .i64 u6]) := Lib.hid (by rw [Hw10.out]; exact HA9.out.alloc _)
  have HC10 : Hid (Blk w10 v5.heap.size 33 #[.int .i64 u0, .int .i64 u1, .int .i64 u2, .int .i64 u3, .int .i64 u4, .int .i64 u5, .int .i64 u6]) := Lib.hid (by rw [Hw10.out]; exact HC9.out.alloc _)
  have HX10 : Hid (Blk w10 v7.heap.size 24 #[.int .i64 v0, .int .i64 v1, .int .i64 v2, .int .i64 v3', .int .i64 v4, .int .i64 v5', .int .i64 v6]) := Lib.hid (by rw [Hw10.out]; exact HX9.out.alloc _)
  have HY10 : Hid (Blk w10 v9.heap.size 33 #[.int .i64 v0, .int .i64 v1, .int .i64 v2, .int .i64 v3', .int .i64 v4, .int .i64 v5', .int .i64 v6]) := Lib.hid (by rw [Hw10.out]; exact Blk.new v9 _ _)
  clear b hq'
  go_wp2_with fail
  rw [← Hw10.out]
  refine (day_any s w10 (HF.out.below HB10.out)).mono ?_
  rintro e w11 ⟨t, ht, rfl, b11⟩
  have HT := Lib.hid ht
  obtain ⟨nn, er3, HN⟩ : ∃ (n e : Int), Hid (dayV t = .tuple #[.int .i64 n, .int .i64 e]) := by
    obtain ⟨n, e, h⟩ := dayV_form t
    exact ⟨n, e, Lib.hid h⟩
  rw [HN.out]
  have HB11 := Lib.hid (HB10.out.trans (b11.mono HB10.out.size))
  have H11 := Lib.hid b11
  clear b11 ht
  go_wp2_with fail
  refine (rday_any s w11 HS6.out).mono ?_
  rintro e w12 ⟨t', ht', rfl, b12⟩
  obtain rfl := Dt.DayR.one HT.out ht'
  rw [HN.out]
  have HB12 := Lib.hid (HB11.out.trans (b12.mono HB11.out.size))
  have H12 : Hid (Below w10.heap.size w10 w12) := Lib.hid (H11.out.trans (b12.mono H11.out.size))
  clear b12 ht'
  have HD := Lib.hid (HD10.out.below H12.out HD10.out.lt)
  have HAA := Lib.hid (HA10.out.below H12.out HA10.out.lt)
  have HCC := Lib.hid (HC10.out.below H12.out HC10.out.lt)
  have HXX := Lib.hid (HX10.out.below H12.out HX10.out.lt)
  have HYY := Lib.hid (HY10.out.below H12.out HY10.out.lt)
  obtain ⟨sh, Hsh⟩ : ∃ sh : ByteArray, Hid (sh = ⟨(Dt.shown ⟨d0, d1, d2, d3, d4, d5, d6⟩).toArray⟩) := ⟨_, Lib.hid rfl⟩
  obtain ⟨un, Hun⟩ : ∃ un : Int, Hid (un = if Dt.Good ⟨d0, d1, d2, d3, d4, d5, d6⟩ then Dt.unix ⟨d0, d1, d2, d3, d4, d5, d6⟩ else 0) := ⟨_, Lib.hid rfl⟩
  obtain ⟨gb, Hgb⟩ : ∃ gb : Bool, Hid (gb = decide (Dt.Good ⟨d0, d1, d2, d3, d4, d5, d6⟩)) := ⟨_, Lib.hid rfl⟩
  go_wp2
  refine dtsy w.heap.size v3.heap.size v5.heap.size v7.heap.size v9.heap.size d0 d1 d2 d3 d4 d5 d6 u0 u1 u2 u3 u4 u5 u6 v0 v1 v2 v3' v4 v5' v6 er1 er2 er3 nn un gb sh (SyS w12 [.agg #[.int .i64 u0, .int .i64 u1, .int .i64 u2, .int .i64 u3, .int .i64 u4, .int .i64 u5, .int .i64 u6], .agg #[.int .i64 v0, .int .i64 v1, .int .i64 v2, .int .i64 v3', .int .i64 v4, .int .i64 v5', .int .i64 v6], .bool gb, .agg #[.int .i64 d0, .int .i64 d1, .int .i64 d2, .int .i64 d3, .int .i64 d4, .int .i64 d5, .int .i64 d6], .bool gb, .int .i64 un, .agg #[.int .i64 d0, .int .i64 d1, .int .i64 d2, .int .i64 d3, .int .i64 d4, .int .i64 d5, .int .i64 d6], .int .i64 un, .string sh, .agg #[.int .i64 d0, .int .i64 d1, .int .i64 d2, .int .i64 d3, .int .i64 d4, .int .i64 d5, .int .i64 d6], .string sh]) (by show 111 < 112; omega) rfl rfl rfl rfl rfl rfl rfl rfl rfl rfl rfl rfl rfl
    (fun p R W h => (HD.out.below h.1 HD.out.lt).seven) (fun p R W h => (HAA.out.below h.1 HAA.out.lt).seven) (fun p R W h => (HCC.out.below h.1 HCC.out.lt).seven) (fun p R W h => (HXX.out.below h.1 HXX.out.lt).seven) (fun p R W h => (HYY.out.below h.1 HYY.out.lt).seven) (fun p R W h => h.2) ?_ ?_ ?_ ?_ ?_ ?_ ?_ ?_ ?_ ?_ ?_ ⟨(Below.refl _ _).drew, fun j v hj => absurd hj (by omega)⟩ ?_
  · intro R W h
    refine (own_any u0 u1 u2 u3 u4 u5 u6 W).mono ?_
    rintro e w' ⟨rfl, hb⟩
    exact ⟨_, rfl, h.next hb rfl⟩
  · intro R W h
    refine (own_any v0 v1 v2 v3' v4 v5' v6 W).mono ?_
    rintro e w' ⟨rfl, hb⟩
    exact ⟨_, rfl, h.next hb rfl⟩
  · intro R W h
    refine (good_any d0 d1 d2 d3 d4 d5 d6 W).mono ?_
    rintro e w' ⟨rfl, hb⟩
    rw [← Hgb.out]
    exact ⟨_, rfl, h.next hb rfl⟩
  · intro R W h
    refine (own_any d0 d1 d2 d3 d4 d5 d6 W).mono ?_
    rintro e w' ⟨rfl, hb⟩
    exact ⟨_, rfl, h.next hb rfl⟩
  · intro R W h
    rw [h.2 3 _ (by decide) rfl]
    refine (rgood_any d0 d1 d2 d3 d4 d5 d6 W).mono ?_
    rintro e w' ⟨rfl, hb⟩
    rw [← Hgb.out]
    exact ⟨_, rfl, h.next hb rfl⟩
  · intro R W h
    refine (unix_any d0 d1 d2 d3 d4 d5 d6 W).mono ?_
    rintro e w' ⟨rfl, hb⟩
    rw [← Hun.out]
    exact ⟨_, rfl, h.next hb rfl⟩
  · intro R W h
    refine (own_any d0 d1 d2 d3 d4 d5 d6 W).mono ?_
    rintro e w' ⟨rfl, hb⟩
    exact ⟨_, rfl, h.next hb rfl⟩
  · intro R W h
    rw [h.2 6 _ (by decide) rfl]
    refine (runix_any d0 d1 d2 d3 d4 d5 d6 W).mono ?_
    rintro e w' ⟨rfl, hb⟩
    rw [← Hun.out]
    exact ⟨_, rfl, h.next hb rfl⟩
  · intro R W h
    refine (show_any d0 d1 d2 d3 d4 d5 d6 W (HP.out.below (HB12.out.trans (h.1.mono HB12.out.size)))).mono ?_
    rintro e w' ⟨rfl, hb⟩
    rw [← Hsh.out]
    exact ⟨_, rfl, h.next hb rfl⟩
  · intro R W h
    refine (own_any d0 d1 d2 d3 d4 d5 d6 W).mono ?_
    rintro e w' ⟨rfl, hb⟩
    exact ⟨_, rfl, h.next hb rfl⟩
  · intro R W h
    rw [h.2 9 _ (by decide) rfl]
    refine (rshow_any d0 d1 d2 d3 d4 d5 d6 W).mono ?_
    rintro e w' ⟨rfl, hb⟩
    rw [← Hsh.out]
    exact ⟨_, rfl, h.next hb rfl⟩
  · intro af wN hfr h8 hS
    have HBN := Lib.hid (HB12.out.trans (hS.1.mono HB12.out.size))
    clear hS
    have ha := hfr.eq (by intro t ht; simp at ht; show t < 112; omega)
    simp only [List.foldl_cons, List.foldl_nil] at ha
    clear hfr
    rw [h8] at ha
    clear h8
    generalize af.eval (.tmp 58) = u58 at ha
    generalize af.eval (.tmp 59) = u59 at ha
    generalize af.eval (.tmp 60) = u60 at ha
    generalize af.eval (.tmp 61) = u61 at ha
    generalize af.eval (.tmp 62) = u62 at ha
    generalize af.eval (.tmp 63) = u63 at ha
    generalize af.eval (.tmp 64) = u64 at ha
    generalize af.eval (.tmp 65) = u65 at ha
    generalize af.eval (.tmp 66) = u66 at ha
    generalize af.eval (.tmp 67) = u67 at ha
    generalize af.eval (.tmp 68) = u68 at ha
    generalize af.eval (.tmp 69) = u69 at ha
    generalize af.eval (.tmp 70) = u70 at ha
    generalize af.eval (.tmp 71) = u71 at ha
    generalize af.eval (.tmp 72) = u72 at ha
    generalize af.eval (.tmp 73) = u73 at ha
    generalize af.eval (.tmp 74) = u74 at ha
    generalize af.eval (.tmp 75) = u75 at ha
    generalize af.eval (.tmp 76) = u76 at ha
    generalize af.eval (.tmp 77) = u77 at ha
    generalize af.eval (.tmp 78) = u78 at ha
    generalize af.eval (.tmp 79) = u79 at ha
    generalize af.eval (.tmp 80) = u80 at ha
    generalize af.eval (.tmp 81) = u81 at ha
    generalize af.eval (.tmp 82) = u82 at ha
    generalize af.eval (.tmp 83) = u83 at ha
    generalize af.eval (.tmp 84) = u84 at ha
    generalize af.eval (.tmp 85) = u85 at ha
    generalize af.eval (.tmp 86) = u86 at ha
    generalize af.eval (.tmp 87) = u87 at ha
    generalize af.eval (.tmp 88) = u88 at ha
    generalize af.eval (.tmp 89) = u89 at ha
    generalize af.eval (.tmp 90) = u90 at ha
    generalize af.eval (.tmp 91) = u91 at ha
    generalize af.eval (.tmp 92) = u92 at ha
    generalize af.eval (.tmp 93) = u93 at ha
    generalize af.eval (.tmp 94) = u94 at ha
    generalize af.eval (.tmp 95) = u95 at ha
    generalize af.eval (.tmp 96) = u96 at ha
    generalize af.eval (.tmp 97) = u97 at ha
    generalize af.eval (.tmp 98) = u98 at ha
    generalize af.eval (.tmp 99) = u99 at ha
    generalize af.eval (.tmp 100) = u100 at ha
    generalize af.eval (.tmp 101) = u101 at ha
    generalize af.eval (.tmp 102) = u102 at ha
    generalize af.eval (.tmp 103) = u103 at ha
    generalize af.eval (.tmp 104) = u104 at ha
    generalize af.eval (.tmp 105) = u105 at ha
    generalize af.eval (.tmp 106) = u106 at ha
    generalize af.eval (.tmp 107) = u107 at ha
    generalize af.eval (.tmp 108) = u108 at ha
    generalize af.eval (.tmp 109) = u109 at ha
    generalize af.eval (.tmp 110) = u110 at ha
    generalize af.eval (.tmp 111) = u111 at ha
    subst ha
    simp only [Act.put, List.setIfInBounds_toArray, List.set_cons_zero, List.set_cons_succ]
    go_wp2
    go_ret
    exact ⟨rfl, HBN.out⟩
end Go.Proofs.YtgkibkophoikoaaDoor
