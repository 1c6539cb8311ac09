/- DevKnown's last line. -/
import Derived.Test.YtnbcdidenmakiaaVals
import Derived.Test.YtnbcdidenmakiaaDevSt
import Derived.WalkKit
import Derived.WalkSpells
import Derived.WalkLawsBesides
import Derived.Lib.Hide
namespace Go.Proofs.Ytnbcdidenmakiaa
open Go.RowKit Dk
set_option linter.unusedVariables false
set_option linter.unusedSimpArgs false

def opsKn25 : Array Oper := ([
  { dst := some 103, op := Op.move (Operand.tmp 2), type := 24, pos := "law.go:62", after := #[], guard := none },
  { dst := some 104, op := Op.binOp BinOp.eql 24 (Operand.tmp 103) (Operand.const (Value.int IntKind.i64 1)) 24, type := 4, pos := "law.go:62", after := #[{ on := 0, ground := Ground.data }], guard := none },
  { dst := some 105, op := Op.move (Operand.tmp 104), type := 4, pos := "law.go:62", after := #[{ on := 1, ground := Ground.data }], guard := none },
  { dst := some 106, op := Op.move (Operand.tmp 4), type := 24, pos := "law.go:62", after := #[{ on := 2, ground := Ground.guard }], guard := some (2, true) },
  { dst := some 107, op := Op.binOp BinOp.eql 24 (Operand.tmp 106) (Operand.const (Value.int IntKind.i64 1)) 24, type := 4, pos := "law.go:62", after := #[{ on := 3, ground := Ground.data }, { on := 2, ground := Ground.guard }], guard := some (2, true) },
  { dst := some 108, op := Op.pick (Operand.tmp 105) (Operand.tmp 107) (Operand.const (Value.bool false)), type := 4, pos := "law.go:62", after := #[{ on := 2, ground := Ground.data }, { on := 4, ground := Ground.data }], guard := none },
  { dst := some 109, op := Op.move (Operand.tmp 108), type := 4, pos := "law.go:62", after := #[{ on := 5, ground := Ground.data }, { on := 2, ground := Ground.chain }], guard := none },
  { dst := some 110, op := Op.move (Operand.tmp 7), type := 24, pos := "law.go:62", after := #[{ on := 6, ground := Ground.guard }], guard := some (6, true) },
  { dst := some 111, op := Op.binOp BinOp.eql 24 (Operand.tmp 110) (Operand.const (Value.int IntKind.i64 1)) 24, type := 4, pos := "law.go:62", after := #[{ on := 7, ground := Ground.data }, { on := 6, ground := Ground.guard }], guard := some (6, true) },
  { dst := some 112, op := Op.pick (Operand.tmp 109) (Operand.tmp 111) (Operand.const (Value.bool false)), type := 4, pos := "law.go:62", after := #[{ on := 6, ground := Ground.data }, { on := 8, ground := Ground.data }], guard := none },
  { dst := some 113, op := Op.move (Operand.tmp 112), type := 4, pos := "law.go:62", after := #[{ on := 9, ground := Ground.data }, { on := 6, ground := Ground.chain }], guard := none },
  { dst := some 114, op := Op.move (Operand.tmp 8), type := 24, pos := "law.go:62", after := #[{ on := 10, ground := Ground.guard }], guard := some (10, true) },
  { dst := some 115, op := Op.binOp BinOp.eql 24 (Operand.tmp 114) (Operand.const (Value.int IntKind.i64 1)) 24, type := 4, pos := "law.go:62", after := #[{ on := 11, ground := Ground.data }, { on := 10, ground := Ground.guard }], guard := some (10, true) },
  { dst := some 116, op := Op.pick (Operand.tmp 113) (Operand.tmp 115) (Operand.const (Value.bool false)), type := 4, pos := "law.go:62", after := #[{ on := 10, ground := Ground.data }, { on := 12, ground := Ground.data }], guard := none },
  { dst := some 117, op := Op.move (Operand.tmp 116), type := 4, pos := "law.go:62", after := #[{ on := 13, ground := Ground.data }, { on := 10, ground := Ground.chain }], guard := none },
  { dst := some 118, op := Op.move (Operand.tmp 10), type := 24, pos := "law.go:62", after := #[{ on := 14, ground := Ground.guard }], guard := some (14, true) },
  { dst := some 119, op := Op.binOp BinOp.eql 24 (Operand.tmp 118) (Operand.const (Value.int IntKind.i64 1)) 24, type := 4, pos := "law.go:62", after := #[{ on := 15, ground := Ground.data }, { on := 14, ground := Ground.guard }], guard := some (14, true) },
  { dst := some 120, op := Op.pick (Operand.tmp 117) (Operand.tmp 119) (Operand.const (Value.bool false)), type := 4, pos := "law.go:62", after := #[{ on := 14, ground := Ground.data }, { on := 16, ground := Ground.data }], guard := none },
  { dst := some 121, op := Op.move (Operand.tmp 120), type := 4, pos := "law.go:62", after := #[{ on := 17, ground := Ground.data }, { on := 14, ground := Ground.chain }], guard := none },
  { dst := some 122, op := Op.move (Operand.tmp 11), type := 3, pos := "law.go:62", after := #[{ on := 18, ground := Ground.guard }], guard := some (18, true) },
  { dst := some 123, op := Op.binOp BinOp.eql 3 (Operand.tmp 122) (Operand.const (Value.int IntKind.i64 3)) 3, type := 4, pos := "law.go:62", after := #[{ on := 19, ground := Ground.data }, { on := 18, ground := Ground.guard }], guard := some (18, true) },
  { dst := some 124, op := Op.pick (Operand.tmp 121) (Operand.tmp 123) (Operand.const (Value.bool false)), type := 4, pos := "law.go:62", after := #[{ on := 18, ground := Ground.data }, { on := 20, ground := Ground.data }], guard := none },
  { dst := some 125, op := Op.move (Operand.tmp 124), type := 4, pos := "law.go:62", after := #[{ on := 21, ground := Ground.data }, { on := 18, ground := Ground.chain }], guard := none },
  { dst := some 126, op := Op.move (Operand.tmp 12), type := 4, pos := "law.go:62", after := #[{ on := 22, ground := Ground.guard }], guard := some (22, true) },
  { dst := some 127, op := Op.pick (Operand.tmp 125) (Operand.tmp 126) (Operand.const (Value.bool false)), type := 4, pos := "law.go:62", after := #[{ on := 22, ground := Ground.data }, { on := 23, ground := Ground.data }], guard := none },
  { dst := some 128, op := Op.move (Operand.tmp 127), type := 4, pos := "law.go:62", after := #[{ on := 24, ground := Ground.data }, { on := 22, ground := Ground.chain }], guard := none },
  { dst := some 129, op := Op.move (Operand.tmp 13), type := 28, pos := "law.go:62", after := #[{ on := 25, ground := Ground.guard }], guard := some (25, true) },
  { dst := some 130, op := Op.indexAddr 28 (Operand.tmp 129) (Operand.const (Value.int IntKind.i64 0)), type := 0, pos := "law.go:62", after := #[{ on := 26, ground := Ground.data }, { on := 25, ground := Ground.guard }], guard := some (25, true) },
  { dst := some 131, op := Op.load 5 (Operand.tmp 130), type := 5, pos := "law.go:62", after := #[{ on := 27, ground := Ground.data }, { on := 25, ground := Ground.guard }], guard := some (25, true) },
  { dst := some 132, op := Op.binOp BinOp.eql 5 (Operand.tmp 131) (Operand.const (Value.int IntKind.u8 3)) 5, type := 4, pos := "law.go:62", after := #[{ on := 28, ground := Ground.data }, { on := 25, ground := Ground.guard }], guard := some (25, true) },
  { dst := some 133, op := Op.pick (Operand.tmp 128) (Operand.tmp 132) (Operand.const (Value.bool false)), type := 4, pos := "law.go:62", after := #[{ on := 25, ground := Ground.data }, { on := 29, ground := Ground.data }], guard := none },
  { dst := some 134, op := Op.move (Operand.tmp 133), type := 4, pos := "law.go:62", after := #[{ on := 30, ground := Ground.data }, { on := 25, ground := Ground.chain }], guard := none },
  { dst := some 135, op := Op.move (Operand.tmp 13), type := 28, pos := "law.go:62", after := #[{ on := 31, ground := Ground.guard }], guard := some (31, true) },
  { dst := some 136, op := Op.indexAddr 28 (Operand.tmp 135) (Operand.const (Value.int IntKind.i64 255)), type := 0, pos := "law.go:62", after := #[{ on := 32, ground := Ground.data }, { on := 31, ground := Ground.guard }], guard := some (31, true) },
  { dst := some 137, op := Op.load 5 (Operand.tmp 136), type := 5, pos := "law.go:62", after := #[{ on := 33, ground := Ground.data }, { on := 31, ground := Ground.guard }], guard := some (31, true) },
  { dst := some 138, op := Op.binOp BinOp.eql 5 (Operand.tmp 137) (Operand.const (Value.int IntKind.u8 3)) 5, type := 4, pos := "law.go:62", after := #[{ on := 34, ground := Ground.data }, { on := 31, ground := Ground.guard }], guard := some (31, true) },
  { dst := some 139, op := Op.pick (Operand.tmp 134) (Operand.tmp 138) (Operand.const (Value.bool false)), type := 4, pos := "law.go:62", after := #[{ on := 31, ground := Ground.data }, { on := 35, ground := Ground.data }], guard := none },
  { dst := some 140, op := Op.move (Operand.tmp 139), type := 4, pos := "law.go:62", after := #[{ on := 36, ground := Ground.data }, { on := 31, ground := Ground.chain }], guard := none },
  { dst := some 141, op := Op.move (Operand.tmp 13), type := 28, pos := "law.go:62", after := #[{ on := 37, ground := Ground.guard }], guard := some (37, true) },
  { dst := some 142, op := Op.indexAddr 28 (Operand.tmp 141) (Operand.const (Value.int IntKind.i64 256)), type := 0, pos := "law.go:62", after := #[{ on := 38, ground := Ground.data }, { on := 37, ground := Ground.guard }], guard := some (37, true) },
  { dst := some 143, op := Op.load 5 (Operand.tmp 142), type := 5, pos := "law.go:62", after := #[{ on := 39, ground := Ground.data }, { on := 37, ground := Ground.guard }], guard := some (37, true) },
  { dst := some 144, op := Op.binOp BinOp.eql 5 (Operand.tmp 143) (Operand.const (Value.int IntKind.u8 1)) 5, type := 4, pos := "law.go:62", after := #[{ on := 40, ground := Ground.data }, { on := 37, ground := Ground.guard }], guard := some (37, true) },
  { dst := some 145, op := Op.pick (Operand.tmp 140) (Operand.tmp 144) (Operand.const (Value.bool false)), type := 4, pos := "law.go:62", after := #[{ on := 37, ground := Ground.data }, { on := 41, ground := Ground.data }], guard := none },
  { dst := some 146, op := Op.move (Operand.tmp 145), type := 4, pos := "law.go:62", after := #[{ on := 42, ground := Ground.data }, { on := 37, ground := Ground.chain }], guard := none },
  { dst := some 147, op := Op.move (Operand.tmp 15), type := 28, pos := "law.go:62", after := #[{ on := 43, ground := Ground.guard }], guard := some (43, true) },
  { dst := some 148, op := Op.indexAddr 28 (Operand.tmp 147) (Operand.const (Value.int IntKind.i64 0)), type := 0, pos := "law.go:62", after := #[{ on := 44, ground := Ground.data }, { on := 43, ground := Ground.guard }], guard := some (43, true) },
  { dst := some 149, op := Op.load 5 (Operand.tmp 148), type := 5, pos := "law.go:62", after := #[{ on := 45, ground := Ground.data }, { on := 43, ground := Ground.guard }], guard := some (43, true) },
  { dst := some 150, op := Op.binOp BinOp.eql 5 (Operand.tmp 149) (Operand.const (Value.int IntKind.u8 0)) 5, type := 4, pos := "law.go:62", after := #[{ on := 46, ground := Ground.data }, { on := 43, ground := Ground.guard }], guard := some (43, true) },
  { dst := some 151, op := Op.pick (Operand.tmp 146) (Operand.tmp 150) (Operand.const (Value.bool false)), type := 4, pos := "law.go:62", after := #[{ on := 43, ground := Ground.data }, { on := 47, ground := Ground.data }], guard := none },
  { dst := some 152, op := Op.move (Operand.tmp 151), type := 4, pos := "law.go:62", after := #[{ on := 48, ground := Ground.data }, { on := 43, ground := Ground.chain }], guard := none },
  { dst := some 153, op := Op.move (Operand.tmp 17), type := 24, pos := "law.go:62", after := #[{ on := 49, ground := Ground.guard }], guard := some (49, true) },
  { dst := some 154, op := Op.binOp BinOp.eql 24 (Operand.tmp 153) (Operand.const (Value.int IntKind.i64 1)) 24, type := 4, pos := "law.go:62", after := #[{ on := 50, ground := Ground.data }, { on := 49, ground := Ground.guard }], guard := some (49, true) },
  { dst := some 155, op := Op.pick (Operand.tmp 152) (Operand.tmp 154) (Operand.const (Value.bool false)), type := 4, pos := "law.go:62", after := #[{ on := 49, ground := Ground.data }, { on := 51, ground := Ground.data }], guard := none },
  { dst := some 156, op := Op.move (Operand.tmp 155), type := 4, pos := "law.go:62", after := #[{ on := 52, ground := Ground.data }, { on := 49, ground := Ground.chain }], guard := none },
  { dst := some 157, op := Op.move (Operand.tmp 18), type := 24, pos := "law.go:62", after := #[{ on := 53, ground := Ground.guard }], guard := some (53, true) },
  { dst := some 158, op := Op.binOp BinOp.eql 24 (Operand.tmp 157) (Operand.const (Value.int IntKind.i64 0)) 24, type := 4, pos := "law.go:62", after := #[{ on := 54, ground := Ground.data }, { on := 53, ground := Ground.guard }], guard := some (53, true) },
  { dst := some 159, op := Op.pick (Operand.tmp 156) (Operand.tmp 158) (Operand.const (Value.bool false)), type := 4, pos := "law.go:62", after := #[{ on := 53, ground := Ground.data }, { on := 55, ground := Ground.data }], guard := none },
  { dst := some 160, op := Op.move (Operand.tmp 159), type := 4, pos := "law.go:62", after := #[{ on := 56, ground := Ground.data }, { on := 53, ground := Ground.chain }], guard := none },
  { dst := some 161, op := Op.move (Operand.tmp 19), type := 24, pos := "law.go:62", after := #[{ on := 57, ground := Ground.guard }], guard := some (57, true) },
  { dst := some 162, op := Op.binOp BinOp.eql 24 (Operand.tmp 161) (Operand.const (Value.int IntKind.i64 7)) 24, type := 4, pos := "law.go:62", after := #[{ on := 58, ground := Ground.data }, { on := 57, ground := Ground.guard }], guard := some (57, true) },
  { dst := some 163, op := Op.pick (Operand.tmp 160) (Operand.tmp 162) (Operand.const (Value.bool false)), type := 4, pos := "law.go:62", after := #[{ on := 57, ground := Ground.data }, { on := 59, ground := Ground.data }], guard := none },
  { dst := some 164, op := Op.move (Operand.tmp 163), type := 4, pos := "law.go:62", after := #[{ on := 60, ground := Ground.data }, { on := 57, ground := Ground.chain }], guard := none },
  { dst := some 165, op := Op.move (Operand.tmp 20), type := 28, pos := "law.go:62", after := #[{ on := 61, ground := Ground.guard }], guard := some (61, true) },
  { dst := some 166, op := Op.convert 28 9 (Operand.tmp 165), type := 9, pos := "law.go:62", after := #[{ on := 62, ground := Ground.data }, { on := 61, ground := Ground.guard }], guard := some (61, true) },
  { dst := some 167, op := Op.call { callee := Callee.value (Operand.func 11), args := #[Operand.const (Value.int IntKind.u8 0)], argTypes := #[5] }, type := 28, pos := "law.go:62", after := #[{ on := 61, ground := Ground.chain }, { on := 61, ground := Ground.guard }], guard := some (61, true) },
  { dst := some 168, op := Op.convert 28 9 (Operand.tmp 167), type := 9, pos := "law.go:62", after := #[{ on := 64, ground := Ground.data }, { on := 61, ground := Ground.guard }], guard := some (61, true) },
  { dst := some 169, op := Op.binOp BinOp.eql 9 (Operand.tmp 166) (Operand.tmp 168) 9, type := 4, pos := "law.go:62", after := #[{ on := 63, ground := Ground.data }, { on := 65, ground := Ground.data }, { on := 61, ground := Ground.guard }], guard := some (61, true) },
  { dst := some 170, op := Op.pick (Operand.tmp 164) (Operand.tmp 169) (Operand.const (Value.bool false)), type := 4, pos := "law.go:62", after := #[{ on := 61, ground := Ground.data }, { on := 66, ground := Ground.data }], guard := none },
  { dst := some 171, op := Op.move (Operand.tmp 170), type := 4, pos := "law.go:62", after := #[{ on := 67, ground := Ground.data }, { on := 64, ground := Ground.chain }], guard := none },
  { dst := some 172, op := Op.move (Operand.tmp 22), type := 24, pos := "law.go:62", after := #[{ on := 68, ground := Ground.guard }], guard := some (68, true) },
  { dst := some 173, op := Op.binOp BinOp.eql 24 (Operand.tmp 172) (Operand.const (Value.int IntKind.i64 0)) 24, type := 4, pos := "law.go:62", after := #[{ on := 69, ground := Ground.data }, { on := 68, ground := Ground.guard }], guard := some (68, true) },
  { dst := some 174, op := Op.pick (Operand.tmp 171) (Operand.tmp 173) (Operand.const (Value.bool false)), type := 4, pos := "law.go:62", after := #[{ on := 68, ground := Ground.data }, { on := 70, ground := Ground.data }], guard := none },
  { dst := some 175, op := Op.move (Operand.tmp 174), type := 4, pos := "law.go:62", after := #[{ on := 71, ground := Ground.data }, { on := 68, ground := Ground.chain }], guard := none },
  { dst := some 176, op := Op.move (Operand.tmp 5), type := 23, pos := "law.go:62", after := #[{ on := 72, ground := Ground.guard }], guard := some (72, true) },
  { dst := some 177, op := Op.call { callee := Callee.value (Operand.func 19), args := #[Operand.tmp 176], argTypes := #[23] }, type := 3, pos := "law.go:62", after := #[{ on := 73, ground := Ground.data }, { on := 72, ground := Ground.chain }, { on := 72, ground := Ground.guard }], guard := some (72, true) },
  { dst := some 178, op := Op.binOp BinOp.eql 3 (Operand.tmp 177) (Operand.const (Value.int IntKind.i64 4)) 3, type := 4, pos := "law.go:62", after := #[{ on := 74, ground := Ground.data }, { on := 72, ground := Ground.guard }], guard := some (72, true) },
  { dst := some 179, op := Op.pick (Operand.tmp 175) (Operand.tmp 178) (Operand.const (Value.bool false)), type := 4, pos := "law.go:62", after := #[{ on := 72, ground := Ground.data }, { on := 75, ground := Ground.data }], guard := none },
  { dst := some 0, op := Op.assign (Operand.tmp 179), type := 4, pos := "law.go:62", after := ([{ on := 76, ground := Ground.data }, { on := 74, ground := Ground.chain }, { on := 0, ground := Ground.phase }, { on := 1, ground := Ground.phase }, { on := 2, ground := Ground.phase }, { on := 3, ground := Ground.phase }, { on := 4, ground := Ground.phase }, { on := 5, ground := Ground.phase }, { on := 6, ground := Ground.phase }, { on := 7, ground := Ground.phase }, { on := 8, ground := Ground.phase }, { on := 9, ground := Ground.phase }, { on := 10, ground := Ground.phase }, { on := 11, ground := Ground.phase }, { on := 12, ground := Ground.phase }, { on := 13, ground := Ground.phase }, { on := 14, ground := Ground.phase }, { on := 15, ground := Ground.phase }, { on := 16, ground := Ground.phase }, { on := 17, ground := Ground.phase }, { on := 18, ground := Ground.phase }, { on := 19, ground := Ground.phase }, { on := 20, ground := Ground.phase }, { on := 21, ground := Ground.phase }, { on := 22, ground := Ground.phase }, { on := 23, ground := Ground.phase }, { on := 24, ground := Ground.phase }, { on := 25, ground := Ground.phase }, { on := 26, ground := Ground.phase }, { on := 27, ground := Ground.phase }, { on := 28, ground := Ground.phase }, { on := 29, ground := Ground.phase }, { on := 30, ground := Ground.phase }, { on := 31, ground := Ground.phase }, { on := 32, ground := Ground.phase }, { on := 33, ground := Ground.phase }, { on := 34, ground := Ground.phase }, { on := 35, ground := Ground.phase }, { on := 36, ground := Ground.phase }, { on := 37, ground := Ground.phase }, { on := 38, ground := Ground.phase }, { on := 39, ground := Ground.phase }, { on := 40, ground := Ground.phase }, { on := 41, ground := Ground.phase }, { on := 42, ground := Ground.phase }, { on := 43, ground := Ground.phase }, { on := 44, ground := Ground.phase }, { on := 45, ground := Ground.phase }, { on := 46, ground := Ground.phase }, { on := 47, ground := Ground.phase }, { on := 48, ground := Ground.phase }, { on := 49, ground := Ground.phase }, { on := 50, ground := Ground.phase }, { on := 51, ground := Ground.phase }, { on := 52, ground := Ground.phase }, { on := 53, ground := Ground.phase }, { on := 54, ground := Ground.phase }, { on := 55, ground := Ground.phase }, { on := 56, ground := Ground.phase }, { on := 57, ground := Ground.phase }, { on := 58, ground := Ground.phase }, { on := 59, ground := Ground.phase }, { on := 60, ground := Ground.phase }, { on := 61, ground := Ground.phase }, { on := 62, ground := Ground.phase }, { on := 63, ground := Ground.phase }, { on := 64, ground := Ground.phase }, { on := 65, ground := Ground.phase }, { on := 66, ground := Ground.phase }, { on := 67, ground := Ground.phase }, { on := 68, ground := Ground.phase }, { on := 69, ground := Ground.phase }, { on := 70, ground := Ground.phase }, { on := 71, ground := Ground.phase }, { on := 72, ground := Ground.phase }, { on := 73, ground := Ground.phase }, { on := 74, ground := Ground.phase }, { on := 75, ground := Ground.phase }, { on := 76, ground := Ground.phase }]).toArray, guard := none }]).toArray

def kn25Vals (d bx cx by_ cy bz cz : Nat) (z : ByteArray) : List (Nat × Nat × Value) := [(0, 103, .int .i64 1), (1, 104, .bool true), (2, 105, .bool true), (3, 106, .int .i64 1), (4, 107, .bool true), (5, 108, .bool true), (6, 109, .bool true), (7, 110, .int .i64 1), (8, 111, .bool true), (9, 112, .bool true), (10, 113, .bool true), (11, 114, .int .i64 1), (12, 115, .bool true), (13, 116, .bool true), (14, 117, .bool true), (15, 118, .int .i64 1), (16, 119, .bool true), (17, 120, .bool true), (18, 121, .bool true), (19, 122, .int .i64 3), (20, 123, .bool true), (21, 124, .bool true), (22, 125, .bool true), (23, 126, .bool true), (24, 127, .bool true), (25, 128, .bool true), (26, 129, .slice (some ⟨bx, 0, none⟩) 512 cx), (27, 130, .pointer (some ⟨bx, 0, none⟩)), (28, 131, .int .u8 3), (29, 132, .bool true), (30, 133, .bool true), (31, 134, .bool true), (32, 135, .slice (some ⟨bx, 0, none⟩) 512 cx), (33, 136, .pointer (some ⟨bx, 255, none⟩)), (34, 137, .int .u8 3), (35, 138, .bool true), (36, 139, .bool true), (37, 140, .bool true), (38, 141, .slice (some ⟨bx, 0, none⟩) 512 cx), (39, 142, .pointer (some ⟨bx, 256, none⟩)), (40, 143, .int .u8 1), (41, 144, .bool true), (42, 145, .bool true), (43, 146, .bool true), (44, 147, .slice (some ⟨by_, 0, none⟩) 512 cy), (45, 148, .pointer (some ⟨by_, 0, none⟩)), (46, 149, .int .u8 0), (47, 150, .bool true), (48, 151, .bool true), (49, 152, .bool true), (50, 153, .int .i64 1), (51, 154, .bool true), (52, 155, .bool true), (53, 156, .bool true), (54, 157, .int .i64 0), (55, 158, .bool true), (56, 159, .bool true), (57, 160, .bool true), (58, 161, .int .i64 7), (59, 162, .bool true), (60, 163, .bool true), (61, 164, .bool true), (62, 165, .slice (some ⟨bz, 0, none⟩) 512 cz), (63, 166, .string z), (65, 168, .string z), (66, 169, .bool true), (67, 170, .bool true), (68, 171, .bool true), (69, 172, .int .i64 0), (70, 173, .bool true), (71, 174, .bool true), (72, 175, .bool true), (73, 176, .pointer (some ⟨d, 0, none⟩)), (75, 178, .bool true), (76, 179, .bool true), (77, 0, .bool true)]
def kn25C : List (Nat × Nat) := [(64, 167), (74, 177)]

set_option maxHeartbeats 8000000 in
set_option maxRecDepth 100000 in
theorem kn25 {Q : Exit → Act → World → Prop} {a0 : Act} {wp : World} (d bx cx by_ cy bz cz : Nat) (z : ByteArray) (S : Nat → (Nat → Value) → World → Prop)
    (hsz : 179 < a0.tmps.size) (in2 : a0.eval (.tmp 2) = .int .i64 1) (in4 : a0.eval (.tmp 4) = .int .i64 1) (in5 : a0.eval (.tmp 5) = .pointer (some ⟨d, 0, none⟩)) (in7 : a0.eval (.tmp 7) = .int .i64 1) (in8 : a0.eval (.tmp 8) = .int .i64 1) (in10 : a0.eval (.tmp 10) = .int .i64 1) (in11 : a0.eval (.tmp 11) = .int .i64 3) (in12 : a0.eval (.tmp 12) = .bool true) (in13 : a0.eval (.tmp 13) = .slice (some ⟨bx, 0, none⟩) 512 cx) (in15 : a0.eval (.tmp 15) = .slice (some ⟨by_, 0, none⟩) 512 cy) (in17 : a0.eval (.tmp 17) = .int .i64 1) (in18 : a0.eval (.tmp 18) = .int .i64 0) (in19 : a0.eval (.tmp 19) = .int .i64 7) (in20 : a0.eval (.tmp 20) = .slice (some ⟨bz, 0, none⟩) 512 cz) (in22 : a0.eval (.tmp 22) = .int .i64 0)
    (h512 : 512 ≤ cx ∧ 512 ≤ cy) (hx : ∀ p R w, S p R w → w.cell? ⟨bx, 0, none⟩ = some (.int .u8 3) ∧ w.cell? ⟨bx, 255, none⟩ = some (.int .u8 3) ∧ w.cell? ⟨bx, 256, none⟩ = some (.int .u8 1) ∧ w.cell? ⟨by_, 0, none⟩ = some (.int .u8 0))
    (hconv : ∀ p R w, S p R w → (convert 28 9 (.slice (some ⟨bz, 0, none⟩) 512 cz)).run Try.prog w = .ok (.string z) w) (hconv2 : ∀ p R w, S p R w → 0 < p → ∃ A2, R 0 = .slice A2 512 512 ∧ (convert 28 9 (.slice A2 512 512)).run Try.prog w = .ok (.string z) w)
    (hc1 : ∀ R w, S 0 R w → Calls Try.prog 11 #[.int .u8 0] w fun e w' => ∃ v, e = .returned v ∧ S 1 (setR R 0 v) w')
    (hc2 : ∀ R w, S 1 R w → Calls Try.prog 19 #[.pointer (some ⟨d, 0, none⟩)] w fun e w' => ∃ v, e = .returned v ∧ S 2 (setR R 1 v) w')
    (hr : ∀ p R w, S p R w → 1 < p → R 1 = .int .i64 4)
    (hS : S 0 (resOf kn25C fun t => a0.eval (.tmp t)) wp.drew)
    (fin : ∀ a w, Fr [103, 104, 105, 106, 107, 108, 109, 110, 111, 112, 113, 114, 115, 116, 117, 118, 119, 120, 121, 122, 123, 124, 125, 126, 127, 128, 129, 130, 131, 132, 133, 134, 135, 136, 137, 138, 139, 140, 141, 142, 143, 144, 145, 146, 147, 148, 149, 150, 151, 152, 153, 154, 155, 156, 157, 158, 159, 160, 161, 162, 163, 164, 165, 166, 167, 168, 169, 170, 171, 172, 173, 174, 175, 176, 177, 178, 179, 0] a0 a → a.eval (.tmp 0) = .bool true → S 2 (resOf kn25C fun t => a.eval (.tmp t)) w → Q .normal a w) :
    (Code.region 25 opsKn25 true).wp Try.prog Q a0 wp := by
  refine region_inv (by kernel_rfl) [103, 104, 105, 106, 107, 108, 109, 110, 111, 112, 113, 114, 115, 116, 117, 118, 119, 120, 121, 122, 123, 124, 125, 126, 127, 128, 129, 130, 131, 132, 133, 134, 135, 136, 137, 138, 139, 140, 141, 142, 143, 144, 145, 146, 147, 148, 149, 150, 151, 152, 153, 154, 155, 156, 157, 158, 159, 160, 161, 162, 163, 164, 165, 166, 167, 168, 169, 170, 171, 172, 173, 174, 175, 176, 177, 178, 179, 0] (by kernel_rfl) (by kernel_rfl) (fun t ht => by simp at ht; omega) (GV (kn25Vals d bx cx by_ cy bz cz z) kn25C S) (.start hS) ?_
    (fun L a w hf hall hG => fin a w hf (hG.val 75 77 0 _ rfl (hall 77 (by decide))) (hG.fin (fun c hc => by simp [kn25C] at hc; rcases hc with rfl | rfl <;> exact hall _ (by decide))))
  clear hS fin
  intro ix oo ho L a w hfr hG hLi hdep hcl K hK
  have e2 : a.tmps[2]?.getD undef = .int .i64 1 := by rw [← ev]; exact (hfr.same 2 (by decide)).trans in2
  have e4 : a.tmps[4]?.getD undef = .int .i64 1 := by rw [← ev]; exact (hfr.same 4 (by decide)).trans in4
  have e5 : a.tmps[5]?.getD undef = .pointer (some ⟨d, 0, none⟩) := by rw [← ev]; exact (hfr.same 5 (by decide)).trans in5
  have e7 : a.tmps[7]?.getD undef = .int .i64 1 := by rw [← ev]; exact (hfr.same 7 (by decide)).trans in7
  have e8 : a.tmps[8]?.getD undef = .int .i64 1 := by rw [← ev]; exact (hfr.same 8 (by decide)).trans in8
  have e10 : a.tmps[10]?.getD undef = .int .i64 1 := by rw [← ev]; exact (hfr.same 10 (by decide)).trans in10
  have e11 : a.tmps[11]?.getD undef = .int .i64 3 := by rw [← ev]; exact (hfr.same 11 (by decide)).trans in11
  have e12 : a.tmps[12]?.getD undef = .bool true := by rw [← ev]; exact (hfr.same 12 (by decide)).trans in12
  have e13 : a.tmps[13]?.getD undef = .slice (some ⟨bx, 0, none⟩) 512 cx := by rw [← ev]; exact (hfr.same 13 (by decide)).trans in13
  have e15 : a.tmps[15]?.getD undef = .slice (some ⟨by_, 0, none⟩) 512 cy := by rw [← ev]; exact (hfr.same 15 (by decide)).trans in15
  have e17 : a.tmps[17]?.getD undef = .int .i64 1 := by rw [← ev]; exact (hfr.same 17 (by decide)).trans in17
  have e18 : a.tmps[18]?.getD undef = .int .i64 0 := by rw [← ev]; exact (hfr.same 18 (by decide)).trans in18
  have e19 : a.tmps[19]?.getD undef = .int .i64 7 := by rw [← ev]; exact (hfr.same 19 (by decide)).trans in19
  have e20 : a.tmps[20]?.getD undef = .slice (some ⟨bz, 0, none⟩) 512 cz := by rw [← ev]; exact (hfr.same 20 (by decide)).trans in20
  have e22 : a.tmps[22]?.getD undef = .int .i64 0 := by rw [← ev]; exact (hfr.same 22 (by decide)).trans in22
  clear in2 in4 in5 in7 in8 in10 in11 in12 in13 in15 in17 in18 in19 in20 in22
  match ix, ho with
  | 0, ho =>
    simp only [opsKn25, List.getElem?_toArray, List.getElem?_cons_zero, Option.some.injEq] at ho
    subst ho
    rw [if_pos (show Region.wanted _ _ = true from rfl)]
    have hfin := hK (.int .i64 1) w (hG.quiet 0 0 103 _ rfl (by kernel_rfl) (by kernel_rfl))
    have HK := Lib.hid hfin
    clear hG hcl hdep hfr hK hfin hLi 
    go_simp
    exact HK.out
  | 1, ho =>
    simp only [opsKn25, List.getElem?_toArray, List.getElem?_cons_succ, List.getElem?_cons_zero, Option.some.injEq] at ho
    subst ho
    have x103 : a.tmps[103]?.getD undef = .int .i64 1 := by rw [← ev]; exact hG.val 0 0 103 _ rfl (hdep ⟨0, .data⟩ (by simp) rfl)
    rw [if_pos (show Region.wanted _ _ = true from rfl)]
    have hfin := hK (.bool true) w (hG.quiet 1 1 104 _ rfl (by kernel_rfl) (by kernel_rfl))
    have HK := Lib.hid hfin
    clear hG hcl hdep hfr hK hfin hLi 
    go_simp
    exact HK.out
  | 2, ho =>
    simp only [opsKn25, List.getElem?_toArray, List.getElem?_cons_succ, List.getElem?_cons_zero, Option.some.injEq] at ho
    subst ho
    have x104 : a.tmps[104]?.getD undef = .bool true := by rw [← ev]; exact hG.val 1 1 104 _ rfl (hdep ⟨1, .data⟩ (by simp) rfl)
    rw [if_pos (show Region.wanted _ _ = true from rfl)]
    have hfin := hK (.bool true) w (hG.quiet 2 2 105 _ rfl (by kernel_rfl) (by kernel_rfl))
    have HK := Lib.hid hfin
    clear hG hcl hdep hfr hK hfin hLi 
    go_simp
    exact HK.out
  | 3, ho =>
    simp only [opsKn25, List.getElem?_toArray, List.getElem?_cons_succ, List.getElem?_cons_zero, Option.some.injEq] at ho
    subst ho
    have xg : a.tmps[105]?.getD undef = .bool true := by rw [← ev]; exact hG.val 2 2 105 _ rfl (hdep ⟨2, .guard⟩ (by simp) rfl)
    have hw := wanted_of (ops := opsKn25) (a := a) (o := { dst := some 106, op := Op.move (Operand.tmp 4), type := 24, pos := "law.go:62", after := #[{ on := 2, ground := Ground.guard }], guard := some (2, true) }) (g := 2) (s := 105) (b := true) (b' := true) rfl rfl xg
    replace hw := hw.trans (show (true == true) = true from rfl)
    rw [if_pos hw]
    clear hw xg
    have hfin := hK (.int .i64 1) w (hG.quiet 3 3 106 _ rfl (by kernel_rfl) (by kernel_rfl))
    have HK := Lib.hid hfin
    clear hG hcl hdep hfr hK hfin hLi 
    go_simp
    exact HK.out
  | 4, ho =>
    simp only [opsKn25, List.getElem?_toArray, List.getElem?_cons_succ, List.getElem?_cons_zero, Option.some.injEq] at ho
    subst ho
    have x106 : a.tmps[106]?.getD undef = .int .i64 1 := by rw [← ev]; exact hG.val 3 3 106 _ rfl (hdep ⟨3, .data⟩ (by simp) rfl)
    have xg : a.tmps[105]?.getD undef = .bool true := by rw [← ev]; exact hG.val 2 2 105 _ rfl (hdep ⟨2, .guard⟩ (by simp) rfl)
    have hw := wanted_of (ops := opsKn25) (a := a) (o := { dst := some 107, op := Op.binOp BinOp.eql 24 (Operand.tmp 106) (Operand.const (Value.int IntKind.i64 1)) 24, type := 4, pos := "law.go:62", after := #[{ on := 3, ground := Ground.data }, { on := 2, ground := Ground.guard }], guard := some (2, true) }) (g := 2) (s := 105) (b := true) (b' := true) rfl rfl xg
    replace hw := hw.trans (show (true == true) = true from rfl)
    rw [if_pos hw]
    clear hw xg
    have hfin := hK (.bool true) w (hG.quiet 4 4 107 _ rfl (by kernel_rfl) (by kernel_rfl))
    have HK := Lib.hid hfin
    clear hG hcl hdep hfr hK hfin hLi 
    go_simp
    exact HK.out
  | 5, ho =>
    simp only [opsKn25, List.getElem?_toArray, List.getElem?_cons_succ, List.getElem?_cons_zero, Option.some.injEq] at ho
    subst ho
    have x105 : a.tmps[105]?.getD undef = .bool true := by rw [← ev]; exact hG.val 2 2 105 _ rfl (hdep ⟨2, .data⟩ (by simp) rfl)
    have x107 : a.tmps[107]?.getD undef = .bool true := by rw [← ev]; exact hG.val 4 4 107 _ rfl (hdep ⟨4, .data⟩ (by simp) rfl)
    rw [if_pos (show Region.wanted _ _ = true from rfl)]
    have hfin := hK (.bool true) w (hG.quiet 5 5 108 _ rfl (by kernel_rfl) (by kernel_rfl))
    have HK := Lib.hid hfin
    clear hG hcl hdep hfr hK hfin hLi 
    go_simp
    exact HK.out
  | 6, ho =>
    simp only [opsKn25, List.getElem?_toArray, List.getElem?_cons_succ, List.getElem?_cons_zero, Option.some.injEq] at ho
    subst ho
    have x108 : a.tmps[108]?.getD undef = .bool true := by rw [← ev]; exact hG.val 5 5 108 _ rfl (hdep ⟨5, .data⟩ (by simp) rfl)
    rw [if_pos (show Region.wanted _ _ = true from rfl)]
    have hfin := hK (.bool true) w (hG.quiet 6 6 109 _ rfl (by kernel_rfl) (by kernel_rfl))
    have HK := Lib.hid hfin
    clear hG hcl hdep hfr hK hfin hLi 
    go_simp
    exact HK.out
  | 7, ho =>
    simp only [opsKn25, List.getElem?_toArray, List.getElem?_cons_succ, List.getElem?_cons_zero, Option.some.injEq] at ho
    subst ho
    have xg : a.tmps[109]?.getD undef = .bool true := by rw [← ev]; exact hG.val 6 6 109 _ rfl (hdep ⟨6, .guard⟩ (by simp) rfl)
    have hw := wanted_of (ops := opsKn25) (a := a) (o := { dst := some 110, op := Op.move (Operand.tmp 7), type := 24, pos := "law.go:62", after := #[{ on := 6, ground := Ground.guard }], guard := some (6, true) }) (g := 6) (s := 109) (b := true) (b' := true) rfl rfl xg
    replace hw := hw.trans (show (true == true) = true from rfl)
    rw [if_pos hw]
    clear hw xg
    have hfin := hK (.int .i64 1) w (hG.quiet 7 7 110 _ rfl (by kernel_rfl) (by kernel_rfl))
    have HK := Lib.hid hfin
    clear hG hcl hdep hfr hK hfin hLi 
    go_simp
    exact HK.out
  | 8, ho =>
    simp only [opsKn25, List.getElem?_toArray, List.getElem?_cons_succ, List.getElem?_cons_zero, Option.some.injEq] at ho
    subst ho
    have x110 : a.tmps[110]?.getD undef = .int .i64 1 := by rw [← ev]; exact hG.val 7 7 110 _ rfl (hdep ⟨7, .data⟩ (by simp) rfl)
    have xg : a.tmps[109]?.getD undef = .bool true := by rw [← ev]; exact hG.val 6 6 109 _ rfl (hdep ⟨6, .guard⟩ (by simp) rfl)
    have hw := wanted_of (ops := opsKn25) (a := a) (o := { dst := some 111, op := Op.binOp BinOp.eql 24 (Operand.tmp 110) (Operand.const (Value.int IntKind.i64 1)) 24, type := 4, pos := "law.go:62", after := #[{ on := 7, ground := Ground.data }, { on := 6, ground := Ground.guard }], guard := some (6, true) }) (g := 6) (s := 109) (b := true) (b' := true) rfl rfl xg
    replace hw := hw.trans (show (true == true) = true from rfl)
    rw [if_pos hw]
    clear hw xg
    have hfin := hK (.bool true) w (hG.quiet 8 8 111 _ rfl (by kernel_rfl) (by kernel_rfl))
    have HK := Lib.hid hfin
    clear hG hcl hdep hfr hK hfin hLi 
    go_simp
    exact HK.out
  | 9, ho =>
    simp only [opsKn25, List.getElem?_toArray, List.getElem?_cons_succ, List.getElem?_cons_zero, Option.some.injEq] at ho
    subst ho
    have x109 : a.tmps[109]?.getD undef = .bool true := by rw [← ev]; exact hG.val 6 6 109 _ rfl (hdep ⟨6, .data⟩ (by simp) rfl)
    have x111 : a.tmps[111]?.getD undef = .bool true := by rw [← ev]; exact hG.val 8 8 111 _ rfl (hdep ⟨8, .data⟩ (by simp) rfl)
    rw [if_pos (show Region.wanted _ _ = true from rfl)]
    have hfin := hK (.bool true) w (hG.quiet 9 9 112 _ rfl (by kernel_rfl) (by kernel_rfl))
    have HK := Lib.hid hfin
    clear hG hcl hdep hfr hK hfin hLi 
    go_simp
    exact HK.out
  | 10, ho =>
    simp only [opsKn25, List.getElem?_toArray, List.getElem?_cons_succ, List.getElem?_cons_zero, Option.some.injEq] at ho
    subst ho
    have x112 : a.tmps[112]?.getD undef = .bool true := by rw [← ev]; exact hG.val 9 9 112 _ rfl (hdep ⟨9, .data⟩ (by simp) rfl)
    rw [if_pos (show Region.wanted _ _ = true from rfl)]
    have hfin := hK (.bool true) w (hG.quiet 10 10 113 _ rfl (by kernel_rfl) (by kernel_rfl))
    have HK := Lib.hid hfin
    clear hG hcl hdep hfr hK hfin hLi 
    go_simp
    exact HK.out
  | 11, ho =>
    simp only [opsKn25, List.getElem?_toArray, List.getElem?_cons_succ, List.getElem?_cons_zero, Option.some.injEq] at ho
    subst ho
    have xg : a.tmps[113]?.getD undef = .bool true := by rw [← ev]; exact hG.val 10 10 113 _ rfl (hdep ⟨10, .guard⟩ (by simp) rfl)
    have hw := wanted_of (ops := opsKn25) (a := a) (o := { dst := some 114, op := Op.move (Operand.tmp 8), type := 24, pos := "law.go:62", after := #[{ on := 10, ground := Ground.guard }], guard := some (10, true) }) (g := 10) (s := 113) (b := true) (b' := true) rfl rfl xg
    replace hw := hw.trans (show (true == true) = true from rfl)
    rw [if_pos hw]
    clear hw xg
    have hfin := hK (.int .i64 1) w (hG.quiet 11 11 114 _ rfl (by kernel_rfl) (by kernel_rfl))
    have HK := Lib.hid hfin
    clear hG hcl hdep hfr hK hfin hLi 
    go_simp
    exact HK.out
  | 12, ho =>
    simp only [opsKn25, List.getElem?_toArray, List.getElem?_cons_succ, List.getElem?_cons_zero, Option.some.injEq] at ho
    subst ho
    have x114 : a.tmps[114]?.getD undef = .int .i64 1 := by rw [← ev]; exact hG.val 11 11 114 _ rfl (hdep ⟨11, .data⟩ (by simp) rfl)
    have xg : a.tmps[113]?.getD undef = .bool true := by rw [← ev]; exact hG.val 10 10 113 _ rfl (hdep ⟨10, .guard⟩ (by simp) rfl)
    have hw := wanted_of (ops := opsKn25) (a := a) (o := { dst := some 115, op := Op.binOp BinOp.eql 24 (Operand.tmp 114) (Operand.const (Value.int IntKind.i64 1)) 24, type := 4, pos := "law.go:62", after := #[{ on := 11, ground := Ground.data }, { on := 10, ground := Ground.guard }], guard := some (10, true) }) (g := 10) (s := 113) (b := true) (b' := true) rfl rfl xg
    replace hw := hw.trans (show (true == true) = true from rfl)
    rw [if_pos hw]
    clear hw xg
    have hfin := hK (.bool true) w (hG.quiet 12 12 115 _ rfl (by kernel_rfl) (by kernel_rfl))
    have HK := Lib.hid hfin
    clear hG hcl hdep hfr hK hfin hLi 
    go_simp
    exact HK.out
  | 13, ho =>
    simp only [opsKn25, List.getElem?_toArray, List.getElem?_cons_succ, List.getElem?_cons_zero, Option.some.injEq] at ho
    subst ho
    have x113 : a.tmps[113]?.getD undef = .bool true := by rw [← ev]; exact hG.val 10 10 113 _ rfl (hdep ⟨10, .data⟩ (by simp) rfl)
    have x115 : a.tmps[115]?.getD undef = .bool true := by rw [← ev]; exact hG.val 12 12 115 _ rfl (hdep ⟨12, .data⟩ (by simp) rfl)
    rw [if_pos (show Region.wanted _ _ = true from rfl)]
    have hfin := hK (.bool true) w (hG.quiet 13 13 116 _ rfl (by kernel_rfl) (by kernel_rfl))
    have HK := Lib.hid hfin
    clear hG hcl hdep hfr hK hfin hLi 
    go_simp
    exact HK.out
  | 14, ho =>
    simp only [opsKn25, List.getElem?_toArray, List.getElem?_cons_succ, List.getElem?_cons_zero, Option.some.injEq] at ho
    subst ho
    have x116 : a.tmps[116]?.getD undef = .bool true := by rw [← ev]; exact hG.val 13 13 116 _ rfl (hdep ⟨13, .data⟩ (by simp) rfl)
    rw [if_pos (show Region.wanted _ _ = true from rfl)]
    have hfin := hK (.bool true) w (hG.quiet 14 14 117 _ rfl (by kernel_rfl) (by kernel_rfl))
    have HK := Lib.hid hfin
    clear hG hcl hdep hfr hK hfin hLi 
    go_simp
    exact HK.out
  | 15, ho =>
    simp only [opsKn25, List.getElem?_toArray, List.getElem?_cons_succ, List.getElem?_cons_zero, Option.some.injEq] at ho
    subst ho
    have xg : a.tmps[117]?.getD undef = .bool true := by rw [← ev]; exact hG.val 14 14 117 _ rfl (hdep ⟨14, .guard⟩ (by simp) rfl)
    have hw := wanted_of (ops := opsKn25) (a := a) (o := { dst := some 118, op := Op.move (Operand.tmp 10), type := 24, pos := "law.go:62", after := #[{ on := 14, ground := Ground.guard }], guard := some (14, true) }) (g := 14) (s := 117) (b := true) (b' := true) rfl rfl xg
    replace hw := hw.trans (show (true == true) = true from rfl)
    rw [if_pos hw]
    clear hw xg
    have hfin := hK (.int .i64 1) w (hG.quiet 15 15 118 _ rfl (by kernel_rfl) (by kernel_rfl))
    have HK := Lib.hid hfin
    clear hG hcl hdep hfr hK hfin hLi 
    go_simp
    exact HK.out
  | 16, ho =>
    simp only [opsKn25, List.getElem?_toArray, List.getElem?_cons_succ, List.getElem?_cons_zero, Option.some.injEq] at ho
    subst ho
    have x118 : a.tmps[118]?.getD undef = .int .i64 1 := by rw [← ev]; exact hG.val 15 15 118 _ rfl (hdep ⟨15, .data⟩ (by simp) rfl)
    have xg : a.tmps[117]?.getD undef = .bool true := by rw [← ev]; exact hG.val 14 14 117 _ rfl (hdep ⟨14, .guard⟩ (by simp) rfl)
    have hw := wanted_of (ops := opsKn25) (a := a) (o := { dst := some 119, op := Op.binOp BinOp.eql 24 (Operand.tmp 118) (Operand.const (Value.int IntKind.i64 1)) 24, type := 4, pos := "law.go:62", after := #[{ on := 15, ground := Ground.data }, { on := 14, ground := Ground.guard }], guard := some (14, true) }) (g := 14) (s := 117) (b := true) (b' := true) rfl rfl xg
    replace hw := hw.trans (show (true == true) = true from rfl)
    rw [if_pos hw]
    clear hw xg
    have hfin := hK (.bool true) w (hG.quiet 16 16 119 _ rfl (by kernel_rfl) (by kernel_rfl))
    have HK := Lib.hid hfin
    clear hG hcl hdep hfr hK hfin hLi 
    go_simp
    exact HK.out
  | 17, ho =>
    simp only [opsKn25, List.getElem?_toArray, List.getElem?_cons_succ, List.getElem?_cons_zero, Option.some.injEq] at ho
    subst ho
    have x117 : a.tmps[117]?.getD undef = .bool true := by rw [← ev]; exact hG.val 14 14 117 _ rfl (hdep ⟨14, .data⟩ (by simp) rfl)
    have x119 : a.tmps[119]?.getD undef = .bool true := by rw [← ev]; exact hG.val 16 16 119 _ rfl (hdep ⟨16, .data⟩ (by simp) rfl)
    rw [if_pos (show Region.wanted _ _ = true from rfl)]
    have hfin := hK (.bool true) w (hG.quiet 17 17 120 _ rfl (by kernel_rfl) (by kernel_rfl))
    have HK := Lib.hid hfin
    clear hG hcl hdep hfr hK hfin hLi 
    go_simp
    exact HK.out
  | 18, ho =>
    simp only [opsKn25, List.getElem?_toArray, List.getElem?_cons_succ, List.getElem?_cons_zero, Option.some.injEq] at ho
    subst ho
    have x120 : a.tmps[120]?.getD undef = .bool true := by rw [← ev]; exact hG.val 17 17 120 _ rfl (hdep ⟨17, .data⟩ (by simp) rfl)
    rw [if_pos (show Region.wanted _ _ = true from rfl)]
    have hfin := hK (.bool true) w (hG.quiet 18 18 121 _ rfl (by kernel_rfl) (by kernel_rfl))
    have HK := Lib.hid hfin
    clear hG hcl hdep hfr hK hfin hLi 
    go_simp
    exact HK.out
  | 19, ho =>
    simp only [opsKn25, List.getElem?_toArray, List.getElem?_cons_succ, List.getElem?_cons_zero, Option.some.injEq] at ho
    subst ho
    have xg : a.tmps[121]?.getD undef = .bool true := by rw [← ev]; exact hG.val 18 18 121 _ rfl (hdep ⟨18, .guard⟩ (by simp) rfl)
    have hw := wanted_of (ops := opsKn25) (a := a) (o := { dst := some 122, op := Op.move (Operand.tmp 11), type := 3, pos := "law.go:62", after := #[{ on := 18, ground := Ground.guard }], guard := some (18, true) }) (g := 18) (s := 121) (b := true) (b' := true) rfl rfl xg
    replace hw := hw.trans (show (true == true) = true from rfl)
    rw [if_pos hw]
    clear hw xg
    have hfin := hK (.int .i64 3) w (hG.quiet 19 19 122 _ rfl (by kernel_rfl) (by kernel_rfl))
    have HK := Lib.hid hfin
    clear hG hcl hdep hfr hK hfin hLi 
    go_simp
    exact HK.out
  | 20, ho =>
    simp only [opsKn25, List.getElem?_toArray, List.getElem?_cons_succ, List.getElem?_cons_zero, Option.some.injEq] at ho
    subst ho
    have x122 : a.tmps[122]?.getD undef = .int .i64 3 := by rw [← ev]; exact hG.val 19 19 122 _ rfl (hdep ⟨19, .data⟩ (by simp) rfl)
    have xg : a.tmps[121]?.getD undef = .bool true := by rw [← ev]; exact hG.val 18 18 121 _ rfl (hdep ⟨18, .guard⟩ (by simp) rfl)
    have hw := wanted_of (ops := opsKn25) (a := a) (o := { dst := some 123, op := Op.binOp BinOp.eql 3 (Operand.tmp 122) (Operand.const (Value.int IntKind.i64 3)) 3, type := 4, pos := "law.go:62", after := #[{ on := 19, ground := Ground.data }, { on := 18, ground := Ground.guard }], guard := some (18, true) }) (g := 18) (s := 121) (b := true) (b' := true) rfl rfl xg
    replace hw := hw.trans (show (true == true) = true from rfl)
    rw [if_pos hw]
    clear hw xg
    have hfin := hK (.bool true) w (hG.quiet 20 20 123 _ rfl (by kernel_rfl) (by kernel_rfl))
    have HK := Lib.hid hfin
    clear hG hcl hdep hfr hK hfin hLi 
    go_simp
    exact HK.out
  | 21, ho =>
    simp only [opsKn25, List.getElem?_toArray, List.getElem?_cons_succ, List.getElem?_cons_zero, Option.some.injEq] at ho
    subst ho
    have x121 : a.tmps[121]?.getD undef = .bool true := by rw [← ev]; exact hG.val 18 18 121 _ rfl (hdep ⟨18, .data⟩ (by simp) rfl)
    have x123 : a.tmps[123]?.getD undef = .bool true := by rw [← ev]; exact hG.val 20 20 123 _ rfl (hdep ⟨20, .data⟩ (by simp) rfl)
    rw [if_pos (show Region.wanted _ _ = true from rfl)]
    have hfin := hK (.bool true) w (hG.quiet 21 21 124 _ rfl (by kernel_rfl) (by kernel_rfl))
    have HK := Lib.hid hfin
    clear hG hcl hdep hfr hK hfin hLi 
    go_simp
    exact HK.out
  | 22, ho =>
    simp only [opsKn25, List.getElem?_toArray, List.getElem?_cons_succ, List.getElem?_cons_zero, Option.some.injEq] at ho
    subst ho
    have x124 : a.tmps[124]?.getD undef = .bool true := by rw [← ev]; exact hG.val 21 21 124 _ rfl (hdep ⟨21, .data⟩ (by simp) rfl)
    rw [if_pos (show Region.wanted _ _ = true from rfl)]
    have hfin := hK (.bool true) w (hG.quiet 22 22 125 _ rfl (by kernel_rfl) (by kernel_rfl))
    have HK := Lib.hid hfin
    clear hG hcl hdep hfr hK hfin hLi 
    go_simp
    exact HK.out
  | 23, ho =>
    simp only [opsKn25, List.getElem?_toArray, List.getElem?_cons_succ, List.getElem?_cons_zero, Option.some.injEq] at ho
    subst ho
    have xg : a.tmps[125]?.getD undef = .bool true := by rw [← ev]; exact hG.val 22 22 125 _ rfl (hdep ⟨22, .guard⟩ (by simp) rfl)
    have hw := wanted_of (ops := opsKn25) (a := a) (o := { dst := some 126, op := Op.move (Operand.tmp 12), type := 4, pos := "law.go:62", after := #[{ on := 22, ground := Ground.guard }], guard := some (22, true) }) (g := 22) (s := 125) (b := true) (b' := true) rfl rfl xg
    replace hw := hw.trans (show (true == true) = true from rfl)
    rw [if_pos hw]
    clear hw xg
    have hfin := hK (.bool true) w (hG.quiet 23 23 126 _ rfl (by kernel_rfl) (by kernel_rfl))
    have HK := Lib.hid hfin
    clear hG hcl hdep hfr hK hfin hLi 
    go_simp
    exact HK.out
  | 24, ho =>
    simp only [opsKn25, List.getElem?_toArray, List.getElem?_cons_succ, List.getElem?_cons_zero, Option.some.injEq] at ho
    subst ho
    have x125 : a.tmps[125]?.getD undef = .bool true := by rw [← ev]; exact hG.val 22 22 125 _ rfl (hdep ⟨22, .data⟩ (by simp) rfl)
    have x126 : a.tmps[126]?.getD undef = .bool true := by rw [← ev]; exact hG.val 23 23 126 _ rfl (hdep ⟨23, .data⟩ (by simp) rfl)
    rw [if_pos (show Region.wanted _ _ = true from rfl)]
    have hfin := hK (.bool true) w (hG.quiet 24 24 127 _ rfl (by kernel_rfl) (by kernel_rfl))
    have HK := Lib.hid hfin
    clear hG hcl hdep hfr hK hfin hLi 
    go_simp
    exact HK.out
  | 25, ho =>
    simp only [opsKn25, List.getElem?_toArray, List.getElem?_cons_succ, List.getElem?_cons_zero, Option.some.injEq] at ho
    subst ho
    have x127 : a.tmps[127]?.getD undef = .bool true := by rw [← ev]; exact hG.val 24 24 127 _ rfl (hdep ⟨24, .data⟩ (by simp) rfl)
    rw [if_pos (show Region.wanted _ _ = true from rfl)]
    have hfin := hK (.bool true) w (hG.quiet 25 25 128 _ rfl (by kernel_rfl) (by kernel_rfl))
    have HK := Lib.hid hfin
    clear hG hcl hdep hfr hK hfin hLi 
    go_simp
    exact HK.out
  | 26, ho =>
    simp only [opsKn25, List.getElem?_toArray, List.getElem?_cons_succ, List.getElem?_cons_zero, Option.some.injEq] at ho
    subst ho
    have xg : a.tmps[128]?.getD undef = .bool true := by rw [← ev]; exact hG.val 25 25 128 _ rfl (hdep ⟨25, .guard⟩ (by simp) rfl)
    have hw := wanted_of (ops := opsKn25) (a := a) (o := { dst := some 129, op := Op.move (Operand.tmp 13), type := 28, pos := "law.go:62", after := #[{ on := 25, ground := Ground.guard }], guard := some (25, true) }) (g := 25) (s := 128) (b := true) (b' := true) rfl rfl xg
    replace hw := hw.trans (show (true == true) = true from rfl)
    rw [if_pos hw]
    clear hw xg
    have hfin := hK (.slice (some ⟨bx, 0, none⟩) 512 cx) w (hG.quiet 26 26 129 _ rfl (by kernel_rfl) (by kernel_rfl))
    have HK := Lib.hid hfin
    clear hG hcl hdep hfr hK hfin hLi 
    go_simp
    exact HK.out
  | 27, ho =>
    simp only [opsKn25, List.getElem?_toArray, List.getElem?_cons_succ, List.getElem?_cons_zero, Option.some.injEq] at ho
    subst ho
    have x129 : a.tmps[129]?.getD undef = .slice (some ⟨bx, 0, none⟩) 512 cx := by rw [← ev]; exact hG.val 26 26 129 _ rfl (hdep ⟨26, .data⟩ (by simp) rfl)
    have xg : a.tmps[128]?.getD undef = .bool true := by rw [← ev]; exact hG.val 25 25 128 _ rfl (hdep ⟨25, .guard⟩ (by simp) rfl)
    have hw := wanted_of (ops := opsKn25) (a := a) (o := { dst := some 130, op := Op.indexAddr 28 (Operand.tmp 129) (Operand.const (Value.int IntKind.i64 0)), type := 0, pos := "law.go:62", after := #[{ on := 26, ground := Ground.data }, { on := 25, ground := Ground.guard }], guard := some (25, true) }) (g := 25) (s := 128) (b := true) (b' := true) rfl rfl xg
    replace hw := hw.trans (show (true == true) = true from rfl)
    rw [if_pos hw]
    clear hw xg
    have hfin := hK (.pointer (some ⟨bx, 0, none⟩)) w (hG.quiet 27 27 130 _ rfl (by kernel_rfl) (by kernel_rfl))
    have HK := Lib.hid hfin
    clear hG hcl hdep hfr hK hfin hLi 
    go_simp
    exact HK.out
  | 28, ho =>
    simp only [opsKn25, List.getElem?_toArray, List.getElem?_cons_succ, List.getElem?_cons_zero, Option.some.injEq] at ho
    subst ho
    have x130 : a.tmps[130]?.getD undef = .pointer (some ⟨bx, 0, none⟩) := by rw [← ev]; exact hG.val 27 27 130 _ rfl (hdep ⟨27, .data⟩ (by simp) rfl)
    have xg : a.tmps[128]?.getD undef = .bool true := by rw [← ev]; exact hG.val 25 25 128 _ rfl (hdep ⟨25, .guard⟩ (by simp) rfl)
    have hw := wanted_of (ops := opsKn25) (a := a) (o := { dst := some 131, op := Op.load 5 (Operand.tmp 130), type := 5, pos := "law.go:62", after := #[{ on := 27, ground := Ground.data }, { on := 25, ground := Ground.guard }], guard := some (25, true) }) (g := 25) (s := 128) (b := true) (b' := true) rfl rfl xg
    replace hw := hw.trans (show (true == true) = true from rfl)
    rw [if_pos hw]
    clear hw xg
    obtain ⟨ph, hSp, hdone⟩ := hG.any
    have hfin := hK (.int .u8 3) w (hG.quiet 28 28 131 _ rfl (by kernel_rfl) (by kernel_rfl))
    have HK := Lib.hid hfin
    generalize (resOf kn25C fun t => a.eval (.tmp t)) = R at *
    obtain ⟨q0, q1, q2, q3⟩ := hx _ _ _ hSp
    clear hconv hconv2 hc1 hc2 hx hr
    clear hSp hdone
    clear hG hcl hdep hfr hK hfin hLi 
    go_simp
    exact HK.out
  | 29, ho =>
    simp only [opsKn25, List.getElem?_toArray, List.getElem?_cons_succ, List.getElem?_cons_zero, Option.some.injEq] at ho
    subst ho
    have x131 : a.tmps[131]?.getD undef = .int .u8 3 := by rw [← ev]; exact hG.val 28 28 131 _ rfl (hdep ⟨28, .data⟩ (by simp) rfl)
    have xg : a.tmps[128]?.getD undef = .bool true := by rw [← ev]; exact hG.val 25 25 128 _ rfl (hdep ⟨25, .guard⟩ (by simp) rfl)
    have hw := wanted_of (ops := opsKn25) (a := a) (o := { dst := some 132, op := Op.binOp BinOp.eql 5 (Operand.tmp 131) (Operand.const (Value.int IntKind.u8 3)) 5, type := 4, pos := "law.go:62", after := #[{ on := 28, ground := Ground.data }, { on := 25, ground := Ground.guard }], guard := some (25, true) }) (g := 25) (s := 128) (b := true) (b' := true) rfl rfl xg
    replace hw := hw.trans (show (true == true) = true from rfl)
    rw [if_pos hw]
    clear hw xg
    have hfin := hK (.bool true) w (hG.quiet 29 29 132 _ rfl (by kernel_rfl) (by kernel_rfl))
    have HK := Lib.hid hfin
    clear hG hcl hdep hfr hK hfin hLi 
    go_simp
    exact HK.out
  | 30, ho =>
    simp only [opsKn25, List.getElem?_toArray, List.getElem?_cons_succ, List.getElem?_cons_zero, Option.some.injEq] at ho
    subst ho
    have x128 : a.tmps[128]?.getD undef = .bool true := by rw [← ev]; exact hG.val 25 25 128 _ rfl (hdep ⟨25, .data⟩ (by simp) rfl)
    have x132 : a.tmps[132]?.getD undef = .bool true := by rw [← ev]; exact hG.val 29 29 132 _ rfl (hdep ⟨29, .data⟩ (by simp) rfl)
    rw [if_pos (show Region.wanted _ _ = true from rfl)]
    have hfin := hK (.bool true) w (hG.quiet 30 30 133 _ rfl (by kernel_rfl) (by kernel_rfl))
    have HK := Lib.hid hfin
    clear hG hcl hdep hfr hK hfin hLi 
    go_simp
    exact HK.out
  | 31, ho =>
    simp only [opsKn25, List.getElem?_toArray, List.getElem?_cons_succ, List.getElem?_cons_zero, Option.some.injEq] at ho
    subst ho
    have x133 : a.tmps[133]?.getD undef = .bool true := by rw [← ev]; exact hG.val 30 30 133 _ rfl (hdep ⟨30, .data⟩ (by simp) rfl)
    rw [if_pos (show Region.wanted _ _ = true from rfl)]
    have hfin := hK (.bool true) w (hG.quiet 31 31 134 _ rfl (by kernel_rfl) (by kernel_rfl))
    have HK := Lib.hid hfin
    clear hG hcl hdep hfr hK hfin hLi 
    go_simp
    exact HK.out
  | 32, ho =>
    simp only [opsKn25, List.getElem?_toArray, List.getElem?_cons_succ, List.getElem?_cons_zero, Option.some.injEq] at ho
    subst ho
    have xg : a.tmps[134]?.getD undef = .bool true := by rw [← ev]; exact hG.val 31 31 134 _ rfl (hdep ⟨31, .guard⟩ (by simp) rfl)
    have hw := wanted_of (ops := opsKn25) (a := a) (o := { dst := some 135, op := Op.move (Operand.tmp 13), type := 28, pos := "law.go:62", after := #[{ on := 31, ground := Ground.guard }], guard := some (31, true) }) (g := 31) (s := 134) (b := true) (b' := true) rfl rfl xg
    replace hw := hw.trans (show (true == true) = true from rfl)
    rw [if_pos hw]
    clear hw xg
    have hfin := hK (.slice (some ⟨bx, 0, none⟩) 512 cx) w (hG.quiet 32 32 135 _ rfl (by kernel_rfl) (by kernel_rfl))
    have HK := Lib.hid hfin
    clear hG hcl hdep hfr hK hfin hLi 
    go_simp
    exact HK.out
  | 33, ho =>
    simp only [opsKn25, List.getElem?_toArray, List.getElem?_cons_succ, List.getElem?_cons_zero, Option.some.injEq] at ho
    subst ho
    have x135 : a.tmps[135]?.getD undef = .slice (some ⟨bx, 0, none⟩) 512 cx := by rw [← ev]; exact hG.val 32 32 135 _ rfl (hdep ⟨32, .data⟩ (by simp) rfl)
    have xg : a.tmps[134]?.getD undef = .bool true := by rw [← ev]; exact hG.val 31 31 134 _ rfl (hdep ⟨31, .guard⟩ (by simp) rfl)
    have hw := wanted_of (ops := opsKn25) (a := a) (o := { dst := some 136, op := Op.indexAddr 28 (Operand.tmp 135) (Operand.const (Value.int IntKind.i64 255)), type := 0, pos := "law.go:62", after := #[{ on := 32, ground := Ground.data }, { on := 31, ground := Ground.guard }], guard := some (31, true) }) (g := 31) (s := 134) (b := true) (b' := true) rfl rfl xg
    replace hw := hw.trans (show (true == true) = true from rfl)
    rw [if_pos hw]
    clear hw xg
    have hfin := hK (.pointer (some ⟨bx, 255, none⟩)) w (hG.quiet 33 33 136 _ rfl (by kernel_rfl) (by kernel_rfl))
    have HK := Lib.hid hfin
    clear hG hcl hdep hfr hK hfin hLi 
    go_simp
    exact HK.out
  | 34, ho =>
    simp only [opsKn25, List.getElem?_toArray, List.getElem?_cons_succ, List.getElem?_cons_zero, Option.some.injEq] at ho
    subst ho
    have x136 : a.tmps[136]?.getD undef = .pointer (some ⟨bx, 255, none⟩) := by rw [← ev]; exact hG.val 33 33 136 _ rfl (hdep ⟨33, .data⟩ (by simp) rfl)
    have xg : a.tmps[134]?.getD undef = .bool true := by rw [← ev]; exact hG.val 31 31 134 _ rfl (hdep ⟨31, .guard⟩ (by simp) rfl)
    have hw := wanted_of (ops := opsKn25) (a := a) (o := { dst := some 137, op := Op.load 5 (Operand.tmp 136), type := 5, pos := "law.go:62", after := #[{ on := 33, ground := Ground.data }, { on := 31, ground := Ground.guard }], guard := some (31, true) }) (g := 31) (s := 134) (b := true) (b' := true) rfl rfl xg
    replace hw := hw.trans (show (true == true) = true from rfl)
    rw [if_pos hw]
    clear hw xg
    obtain ⟨ph, hSp, hdone⟩ := hG.any
    have hfin := hK (.int .u8 3) w (hG.quiet 34 34 137 _ rfl (by kernel_rfl) (by kernel_rfl))
    have HK := Lib.hid hfin
    generalize (resOf kn25C fun t => a.eval (.tmp t)) = R at *
    obtain ⟨q0, q1, q2, q3⟩ := hx _ _ _ hSp
    clear hconv hconv2 hc1 hc2 hx hr
    clear hSp hdone
    clear hG hcl hdep hfr hK hfin hLi 
    go_simp
    exact HK.out
  | 35, ho =>
    simp only [opsKn25, List.getElem?_toArray, List.getElem?_cons_succ, List.getElem?_cons_zero, Option.some.injEq] at ho
    subst ho
    have x137 : a.tmps[137]?.getD undef = .int .u8 3 := by rw [← ev]; exact hG.val 34 34 137 _ rfl (hdep ⟨34, .data⟩ (by simp) rfl)
    have xg : a.tmps[134]?.getD undef = .bool true := by rw [← ev]; exact hG.val 31 31 134 _ rfl (hdep ⟨31, .guard⟩ (by simp) rfl)
    have hw := wanted_of (ops := opsKn25) (a := a) (o := { dst := some 138, op := Op.binOp BinOp.eql 5 (Operand.tmp 137) (Operand.const (Value.int IntKind.u8 3)) 5, type := 4, pos := "law.go:62", after := #[{ on := 34, ground := Ground.data }, { on := 31, ground := Ground.guard }], guard := some (31, true) }) (g := 31) (s := 134) (b := true) (b' := true) rfl rfl xg
    replace hw := hw.trans (show (true == true) = true from rfl)
    rw [if_pos hw]
    clear hw xg
    have hfin := hK (.bool true) w (hG.quiet 35 35 138 _ rfl (by kernel_rfl) (by kernel_rfl))
    have HK := Lib.hid hfin
    clear hG hcl hdep hfr hK hfin hLi 
    go_simp
    exact HK.out
  | 36, ho =>
    simp only [opsKn25, List.getElem?_toArray, List.getElem?_cons_succ, List.getElem?_cons_zero, Option.some.injEq] at ho
    subst ho
    have x134 : a.tmps[134]?.getD undef = .bool true := by rw [← ev]; exact hG.val 31 31 134 _ rfl (hdep ⟨31, .data⟩ (by simp) rfl)
    have x138 : a.tmps[138]?.getD undef = .bool true := by rw [← ev]; exact hG.val 35 35 138 _ rfl (hdep ⟨35, .data⟩ (by simp) rfl)
    rw [if_pos (show Region.wanted _ _ = true from rfl)]
    have hfin := hK (.bool true) w (hG.quiet 36 36 139 _ rfl (by kernel_rfl) (by kernel_rfl))
    have HK := Lib.hid hfin
    clear hG hcl hdep hfr hK hfin hLi 
    go_simp
    exact HK.out
  | 37, ho =>
    simp only [opsKn25, List.getElem?_toArray, List.getElem?_cons_succ, List.getElem?_cons_zero, Option.some.injEq] at ho
    subst ho
    have x139 : a.tmps[139]?.getD undef = .bool true := by rw [← ev]; exact hG.val 36 36 139 _ rfl (hdep ⟨36, .data⟩ (by simp) rfl)
    rw [if_pos (show Region.wanted _ _ = true from rfl)]
    have hfin := hK (.bool true) w (hG.quiet 37 37 140 _ rfl (by kernel_rfl) (by kernel_rfl))
    have HK := Lib.hid hfin
    clear hG hcl hdep hfr hK hfin hLi 
    go_simp
    exact HK.out
  | 38, ho =>
    simp only [opsKn25, List.getElem?_toArray, List.getElem?_cons_succ, List.getElem?_cons_zero, Option.some.injEq] at ho
    subst ho
    have xg : a.tmps[140]?.getD undef = .bool true := by rw [← ev]; exact hG.val 37 37 140 _ rfl (hdep ⟨37, .guard⟩ (by simp) rfl)
    have hw := wanted_of (ops := opsKn25) (a := a) (o := { dst := some 141, op := Op.move (Operand.tmp 13), type := 28, pos := "law.go:62", after := #[{ on := 37, ground := Ground.guard }], guard := some (37, true) }) (g := 37) (s := 140) (b := true) (b' := true) rfl rfl xg
    replace hw := hw.trans (show (true == true) = true from rfl)
    rw [if_pos hw]
    clear hw xg
    have hfin := hK (.slice (some ⟨bx, 0, none⟩) 512 cx) w (hG.quiet 38 38 141 _ rfl (by kernel_rfl) (by kernel_rfl))
    have HK := Lib.hid hfin
    clear hG hcl hdep hfr hK hfin hLi 
    go_simp
    exact HK.out
  | 39, ho =>
    simp only [opsKn25, List.getElem?_toArray, List.getElem?_cons_succ, List.getElem?_cons_zero, Option.some.injEq] at ho
    subst ho
    have x141 : a.tmps[141]?.getD undef = .slice (some ⟨bx, 0, none⟩) 512 cx := by rw [← ev]; exact hG.val 38 38 141 _ rfl (hdep ⟨38, .data⟩ (by simp) rfl)
    have xg : a.tmps[140]?.getD undef = .bool true := by rw [← ev]; exact hG.val 37 37 140 _ rfl (hdep ⟨37, .guard⟩ (by simp) rfl)
    have hw := wanted_of (ops := opsKn25) (a := a) (o := { dst := some 142, op := Op.indexAddr 28 (Operand.tmp 141) (Operand.const (Value.int IntKind.i64 256)), type := 0, pos := "law.go:62", after := #[{ on := 38, ground := Ground.data }, { on := 37, ground := Ground.guard }], guard := some (37, true) }) (g := 37) (s := 140) (b := true) (b' := true) rfl rfl xg
    replace hw := hw.trans (show (true == true) = true from rfl)
    rw [if_pos hw]
    clear hw xg
    have hfin := hK (.pointer (some ⟨bx, 256, none⟩)) w (hG.quiet 39 39 142 _ rfl (by kernel_rfl) (by kernel_rfl))
    have HK := Lib.hid hfin
    clear hG hcl hdep hfr hK hfin hLi 
    go_simp
    exact HK.out
  | 40, ho =>
    simp only [opsKn25, List.getElem?_toArray, List.getElem?_cons_succ, List.getElem?_cons_zero, Option.some.injEq] at ho
    subst ho
    have x142 : a.tmps[142]?.getD undef = .pointer (some ⟨bx, 256, none⟩) := by rw [← ev]; exact hG.val 39 39 142 _ rfl (hdep ⟨39, .data⟩ (by simp) rfl)
    have xg : a.tmps[140]?.getD undef = .bool true := by rw [← ev]; exact hG.val 37 37 140 _ rfl (hdep ⟨37, .guard⟩ (by simp) rfl)
    have hw := wanted_of (ops := opsKn25) (a := a) (o := { dst := some 143, op := Op.load 5 (Operand.tmp 142), type := 5, pos := "law.go:62", after := #[{ on := 39, ground := Ground.data }, { on := 37, ground := Ground.guard }], guard := some (37, true) }) (g := 37) (s := 140) (b := true) (b' := true) rfl rfl xg
    replace hw := hw.trans (show (true == true) = true from rfl)
    rw [if_pos hw]
    clear hw xg
    obtain ⟨ph, hSp, hdone⟩ := hG.any
    have hfin := hK (.int .u8 1) w (hG.quiet 40 40 143 _ rfl (by kernel_rfl) (by kernel_rfl))
    have HK := Lib.hid hfin
    generalize (resOf kn25C fun t => a.eval (.tmp t)) = R at *
    obtain ⟨q0, q1, q2, q3⟩ := hx _ _ _ hSp
    clear hconv hconv2 hc1 hc2 hx hr
    clear hSp hdone
    clear hG hcl hdep hfr hK hfin hLi 
    go_simp
    exact HK.out
  | 41, ho =>
    simp only [opsKn25, List.getElem?_toArray, List.getElem?_cons_succ, List.getElem?_cons_zero, Option.some.injEq] at ho
    subst ho
    have x143 : a.tmps[143]?.getD undef = .int .u8 1 := by rw [← ev]; exact hG.val 40 40 143 _ rfl (hdep ⟨40, .data⟩ (by simp) rfl)
    have xg : a.tmps[140]?.getD undef = .bool true := by rw [← ev]; exact hG.val 37 37 140 _ rfl (hdep ⟨37, .guard⟩ (by simp) rfl)
    have hw := wanted_of (ops := opsKn25) (a := a) (o := { dst := some 144, op := Op.binOp BinOp.eql 5 (Operand.tmp 143) (Operand.const (Value.int IntKind.u8 1)) 5, type := 4, pos := "law.go:62", after := #[{ on := 40, ground := Ground.data }, { on := 37, ground := Ground.guard }], guard := some (37, true) }) (g := 37) (s := 140) (b := true) (b' := true) rfl rfl xg
    replace hw := hw.trans (show (true == true) = true from rfl)
    rw [if_pos hw]
    clear hw xg
    have hfin := hK (.bool true) w (hG.quiet 41 41 144 _ rfl (by kernel_rfl) (by kernel_rfl))
    have HK := Lib.hid hfin
    clear hG hcl hdep hfr hK hfin hLi 
    go_simp
    exact HK.out
  | 42, ho =>
    simp only [opsKn25, List.getElem?_toArray, List.getElem?_cons_succ, List.getElem?_cons_zero, Option.some.injEq] at ho
    subst ho
    have x140 : a.tmps[140]?.getD undef = .bool true := by rw [← ev]; exact hG.val 37 37 140 _ rfl (hdep ⟨37, .data⟩ (by simp) rfl)
    have x144 : a.tmps[144]?.getD undef = .bool true := by rw [← ev]; exact hG.val 41 41 144 _ rfl (hdep ⟨41, .data⟩ (by simp) rfl)
    rw [if_pos (show Region.wanted _ _ = true from rfl)]
    have hfin := hK (.bool true) w (hG.quiet 42 42 145 _ rfl (by kernel_rfl) (by kernel_rfl))
    have HK := Lib.hid hfin
    clear hG hcl hdep hfr hK hfin hLi 
    go_simp
    exact HK.out
  | 43, ho =>
    simp only [opsKn25, List.getElem?_toArray, List.getElem?_cons_succ, List.getElem?_cons_zero, Option.some.injEq] at ho
    subst ho
    have x145 : a.tmps[145]?.getD undef = .bool true := by rw [← ev]; exact hG.val 42 42 145 _ rfl (hdep ⟨42, .data⟩ (by simp) rfl)
    rw [if_pos (show Region.wanted _ _ = true from rfl)]
    have hfin := hK (.bool true) w (hG.quiet 43 43 146 _ rfl (by kernel_rfl) (by kernel_rfl))
    have HK := Lib.hid hfin
    clear hG hcl hdep hfr hK hfin hLi 
    go_simp
    exact HK.out
  | 44, ho =>
    simp only [opsKn25, List.getElem?_toArray, List.getElem?_cons_succ, List.getElem?_cons_zero, Option.some.injEq] at ho
    subst ho
    have xg : a.tmps[146]?.getD undef = .bool true := by rw [← ev]; exact hG.val 43 43 146 _ rfl (hdep ⟨43, .guard⟩ (by simp) rfl)
    have hw := wanted_of (ops := opsKn25) (a := a) (o := { dst := some 147, op := Op.move (Operand.tmp 15), type := 28, pos := "law.go:62", after := #[{ on := 43, ground := Ground.guard }], guard := some (43, true) }) (g := 43) (s := 146) (b := true) (b' := true) rfl rfl xg
    replace hw := hw.trans (show (true == true) = true from rfl)
    rw [if_pos hw]
    clear hw xg
    have hfin := hK (.slice (some ⟨by_, 0, none⟩) 512 cy) w (hG.quiet 44 44 147 _ rfl (by kernel_rfl) (by kernel_rfl))
    have HK := Lib.hid hfin
    clear hG hcl hdep hfr hK hfin hLi 
    go_simp
    exact HK.out
  | 45, ho =>
    simp only [opsKn25, List.getElem?_toArray, List.getElem?_cons_succ, List.getElem?_cons_zero, Option.some.injEq] at ho
    subst ho
    have x147 : a.tmps[147]?.getD undef = .slice (some ⟨by_, 0, none⟩) 512 cy := by rw [← ev]; exact hG.val 44 44 147 _ rfl (hdep ⟨44, .data⟩ (by simp) rfl)
    have xg : a.tmps[146]?.getD undef = .bool true := by rw [← ev]; exact hG.val 43 43 146 _ rfl (hdep ⟨43, .guard⟩ (by simp) rfl)
    have hw := wanted_of (ops := opsKn25) (a := a) (o := { dst := some 148, op := Op.indexAddr 28 (Operand.tmp 147) (Operand.const (Value.int IntKind.i64 0)), type := 0, pos := "law.go:62", after := #[{ on := 44, ground := Ground.data }, { on := 43, ground := Ground.guard }], guard := some (43, true) }) (g := 43) (s := 146) (b := true) (b' := true) rfl rfl xg
    replace hw := hw.trans (show (true == true) = true from rfl)
    rw [if_pos hw]
    clear hw xg
    have hfin := hK (.pointer (some ⟨by_, 0, none⟩)) w (hG.quiet 45 45 148 _ rfl (by kernel_rfl) (by kernel_rfl))
    have HK := Lib.hid hfin
    clear hG hcl hdep hfr hK hfin hLi 
    go_simp
    exact HK.out
  | 46, ho =>
    simp only [opsKn25, List.getElem?_toArray, List.getElem?_cons_succ, List.getElem?_cons_zero, Option.some.injEq] at ho
    subst ho
    have x148 : a.tmps[148]?.getD undef = .pointer (some ⟨by_, 0, none⟩) := by rw [← ev]; exact hG.val 45 45 148 _ rfl (hdep ⟨45, .data⟩ (by simp) rfl)
    have xg : a.tmps[146]?.getD undef = .bool true := by rw [← ev]; exact hG.val 43 43 146 _ rfl (hdep ⟨43, .guard⟩ (by simp) rfl)
    have hw := wanted_of (ops := opsKn25) (a := a) (o := { dst := some 149, op := Op.load 5 (Operand.tmp 148), type := 5, pos := "law.go:62", after := #[{ on := 45, ground := Ground.data }, { on := 43, ground := Ground.guard }], guard := some (43, true) }) (g := 43) (s := 146) (b := true) (b' := true) rfl rfl xg
    replace hw := hw.trans (show (true == true) = true from rfl)
    rw [if_pos hw]
    clear hw xg
    obtain ⟨ph, hSp, hdone⟩ := hG.any
    have hfin := hK (.int .u8 0) w (hG.quiet 46 46 149 _ rfl (by kernel_rfl) (by kernel_rfl))
    have HK := Lib.hid hfin
    generalize (resOf kn25C fun t => a.eval (.tmp t)) = R at *
    obtain ⟨q0, q1, q2, q3⟩ := hx _ _ _ hSp
    clear hconv hconv2 hc1 hc2 hx hr
    clear hSp hdone
    clear hG hcl hdep hfr hK hfin hLi 
    go_simp
    exact HK.out
  | 47, ho =>
    simp only [opsKn25, List.getElem?_toArray, List.getElem?_cons_succ, List.getElem?_cons_zero, Option.some.injEq] at ho
    subst ho
    have x149 : a.tmps[149]?.getD undef = .int .u8 0 := by rw [← ev]; exact hG.val 46 46 149 _ rfl (hdep ⟨46, .data⟩ (by simp) rfl)
    have xg : a.tmps[146]?.getD undef = .bool true := by rw [← ev]; exact hG.val 43 43 146 _ rfl (hdep ⟨43, .guard⟩ (by simp) rfl)
    have hw := wanted_of (ops := opsKn25) (a := a) (o := { dst := some 150, op := Op.binOp BinOp.eql 5 (Operand.tmp 149) (Operand.const (Value.int IntKind.u8 0)) 5, type := 4, pos := "law.go:62", after := #[{ on := 46, ground := Ground.data }, { on := 43, ground := Ground.guard }], guard := some (43, true) }) (g := 43) (s := 146) (b := true) (b' := true) rfl rfl xg
    replace hw := hw.trans (show (true == true) = true from rfl)
    rw [if_pos hw]
    clear hw xg
    have hfin := hK (.bool true) w (hG.quiet 47 47 150 _ rfl (by kernel_rfl) (by kernel_rfl))
    have HK := Lib.hid hfin
    clear hG hcl hdep hfr hK hfin hLi 
    go_simp
    exact HK.out
  | 48, ho =>
    simp only [opsKn25, List.getElem?_toArray, List.getElem?_cons_succ, List.getElem?_cons_zero, Option.some.injEq] at ho
    subst ho
    have x146 : a.tmps[146]?.getD undef = .bool true := by rw [← ev]; exact hG.val 43 43 146 _ rfl (hdep ⟨43, .data⟩ (by simp) rfl)
    have x150 : a.tmps[150]?.getD undef = .bool true := by rw [← ev]; exact hG.val 47 47 150 _ rfl (hdep ⟨47, .data⟩ (by simp) rfl)
    rw [if_pos (show Region.wanted _ _ = true from rfl)]
    have hfin := hK (.bool true) w (hG.quiet 48 48 151 _ rfl (by kernel_rfl) (by kernel_rfl))
    have HK := Lib.hid hfin
    clear hG hcl hdep hfr hK hfin hLi 
    go_simp
    exact HK.out
  | 49, ho =>
    simp only [opsKn25, List.getElem?_toArray, List.getElem?_cons_succ, List.getElem?_cons_zero, Option.some.injEq] at ho
    subst ho
    have x151 : a.tmps[151]?.getD undef = .bool true := by rw [← ev]; exact hG.val 48 48 151 _ rfl (hdep ⟨48, .data⟩ (by simp) rfl)
    rw [if_pos (show Region.wanted _ _ = true from rfl)]
    have hfin := hK (.bool true) w (hG.quiet 49 49 152 _ rfl (by kernel_rfl) (by kernel_rfl))
    have HK := Lib.hid hfin
    clear hG hcl hdep hfr hK hfin hLi 
    go_simp
    exact HK.out
  | 50, ho =>
    simp only [opsKn25, List.getElem?_toArray, List.getElem?_cons_succ, List.getElem?_cons_zero, Option.some.injEq] at ho
    subst ho
    have xg : a.tmps[152]?.getD undef = .bool true := by rw [← ev]; exact hG.val 49 49 152 _ rfl (hdep ⟨49, .guard⟩ (by simp) rfl)
    have hw := wanted_of (ops := opsKn25) (a := a) (o := { dst := some 153, op := Op.move (Operand.tmp 17), type := 24, pos := "law.go:62", after := #[{ on := 49, ground := Ground.guard }], guard := some (49, true) }) (g := 49) (s := 152) (b := true) (b' := true) rfl rfl xg
    replace hw := hw.trans (show (true == true) = true from rfl)
    rw [if_pos hw]
    clear hw xg
    have hfin := hK (.int .i64 1) w (hG.quiet 50 50 153 _ rfl (by kernel_rfl) (by kernel_rfl))
    have HK := Lib.hid hfin
    clear hG hcl hdep hfr hK hfin hLi 
    go_simp
    exact HK.out
  | 51, ho =>
    simp only [opsKn25, List.getElem?_toArray, List.getElem?_cons_succ, List.getElem?_cons_zero, Option.some.injEq] at ho
    subst ho
    have x153 : a.tmps[153]?.getD undef = .int .i64 1 := by rw [← ev]; exact hG.val 50 50 153 _ rfl (hdep ⟨50, .data⟩ (by simp) rfl)
    have xg : a.tmps[152]?.getD undef = .bool true := by rw [← ev]; exact hG.val 49 49 152 _ rfl (hdep ⟨49, .guard⟩ (by simp) rfl)
    have hw := wanted_of (ops := opsKn25) (a := a) (o := { dst := some 154, op := Op.binOp BinOp.eql 24 (Operand.tmp 153) (Operand.const (Value.int IntKind.i64 1)) 24, type := 4, pos := "law.go:62", after := #[{ on := 50, ground := Ground.data }, { on := 49, ground := Ground.guard }], guard := some (49, true) }) (g := 49) (s := 152) (b := true) (b' := true) rfl rfl xg
    replace hw := hw.trans (show (true == true) = true from rfl)
    rw [if_pos hw]
    clear hw xg
    have hfin := hK (.bool true) w (hG.quiet 51 51 154 _ rfl (by kernel_rfl) (by kernel_rfl))
    have HK := Lib.hid hfin
    clear hG hcl hdep hfr hK hfin hLi 
    go_simp
    exact HK.out
  | 52, ho =>
    simp only [opsKn25, List.getElem?_toArray, List.getElem?_cons_succ, List.getElem?_cons_zero, Option.some.injEq] at ho
    subst ho
    have x152 : a.tmps[152]?.getD undef = .bool true := by rw [← ev]; exact hG.val 49 49 152 _ rfl (hdep ⟨49, .data⟩ (by simp) rfl)
    have x154 : a.tmps[154]?.getD undef = .bool true := by rw [← ev]; exact hG.val 51 51 154 _ rfl (hdep ⟨51, .data⟩ (by simp) rfl)
    rw [if_pos (show Region.wanted _ _ = true from rfl)]
    have hfin := hK (.bool true) w (hG.quiet 52 52 155 _ rfl (by kernel_rfl) (by kernel_rfl))
    have HK := Lib.hid hfin
    clear hG hcl hdep hfr hK hfin hLi 
    go_simp
    exact HK.out
  | 53, ho =>
    simp only [opsKn25, List.getElem?_toArray, List.getElem?_cons_succ, List.getElem?_cons_zero, Option.some.injEq] at ho
    subst ho
    have x155 : a.tmps[155]?.getD undef = .bool true := by rw [← ev]; exact hG.val 52 52 155 _ rfl (hdep ⟨52, .data⟩ (by simp) rfl)
    rw [if_pos (show Region.wanted _ _ = true from rfl)]
    have hfin := hK (.bool true) w (hG.quiet 53 53 156 _ rfl (by kernel_rfl) (by kernel_rfl))
    have HK := Lib.hid hfin
    clear hG hcl hdep hfr hK hfin hLi 
    go_simp
    exact HK.out
  | 54, ho =>
    simp only [opsKn25, List.getElem?_toArray, List.getElem?_cons_succ, List.getElem?_cons_zero, Option.some.injEq] at ho
    subst ho
    have xg : a.tmps[156]?.getD undef = .bool true := by rw [← ev]; exact hG.val 53 53 156 _ rfl (hdep ⟨53, .guard⟩ (by simp) rfl)
    have hw := wanted_of (ops := opsKn25) (a := a) (o := { dst := some 157, op := Op.move (Operand.tmp 18), type := 24, pos := "law.go:62", after := #[{ on := 53, ground := Ground.guard }], guard := some (53, true) }) (g := 53) (s := 156) (b := true) (b' := true) rfl rfl xg
    replace hw := hw.trans (show (true == true) = true from rfl)
    rw [if_pos hw]
    clear hw xg
    have hfin := hK (.int .i64 0) w (hG.quiet 54 54 157 _ rfl (by kernel_rfl) (by kernel_rfl))
    have HK := Lib.hid hfin
    clear hG hcl hdep hfr hK hfin hLi 
    go_simp
    exact HK.out
  | 55, ho =>
    simp only [opsKn25, List.getElem?_toArray, List.getElem?_cons_succ, List.getElem?_cons_zero, Option.some.injEq] at ho
    subst ho
    have x157 : a.tmps[157]?.getD undef = .int .i64 0 := by rw [← ev]; exact hG.val 54 54 157 _ rfl (hdep ⟨54, .data⟩ (by simp) rfl)
    have xg : a.tmps[156]?.getD undef = .bool true := by rw [← ev]; exact hG.val 53 53 156 _ rfl (hdep ⟨53, .guard⟩ (by simp) rfl)
    have hw := wanted_of (ops := opsKn25) (a := a) (o := { dst := some 158, op := Op.binOp BinOp.eql 24 (Operand.tmp 157) (Operand.const (Value.int IntKind.i64 0)) 24, type := 4, pos := "law.go:62", after := #[{ on := 54, ground := Ground.data }, { on := 53, ground := Ground.guard }], guard := some (53, true) }) (g := 53) (s := 156) (b := true) (b' := true) rfl rfl xg
    replace hw := hw.trans (show (true == true) = true from rfl)
    rw [if_pos hw]
    clear hw xg
    have hfin := hK (.bool true) w (hG.quiet 55 55 158 _ rfl (by kernel_rfl) (by kernel_rfl))
    have HK := Lib.hid hfin
    clear hG hcl hdep hfr hK hfin hLi 
    go_simp
    exact HK.out
  | 56, ho =>
    simp only [opsKn25, List.getElem?_toArray, List.getElem?_cons_succ, List.getElem?_cons_zero, Option.some.injEq] at ho
    subst ho
    have x156 : a.tmps[156]?.getD undef = .bool true := by rw [← ev]; exact hG.val 53 53 156 _ rfl (hdep ⟨53, .data⟩ (by simp) rfl)
    have x158 : a.tmps[158]?.getD undef = .bool true := by rw [← ev]; exact hG.val 55 55 158 _ rfl (hdep ⟨55, .data⟩ (by simp) rfl)
    rw [if_pos (show Region.wanted _ _ = true from rfl)]
    have hfin := hK (.bool true) w (hG.quiet 56 56 159 _ rfl (by kernel_rfl) (by kernel_rfl))
    have HK := Lib.hid hfin
    clear hG hcl hdep hfr hK hfin hLi 
    go_simp
    exact HK.out
  | 57, ho =>
    simp only [opsKn25, List.getElem?_toArray, List.getElem?_cons_succ, List.getElem?_cons_zero, Option.some.injEq] at ho
    subst ho
    have x159 : a.tmps[159]?.getD undef = .bool true := by rw [← ev]; exact hG.val 56 56 159 _ rfl (hdep ⟨56, .data⟩ (by simp) rfl)
    rw [if_pos (show Region.wanted _ _ = true from rfl)]
    have hfin := hK (.bool true) w (hG.quiet 57 57 160 _ rfl (by kernel_rfl) (by kernel_rfl))
    have HK := Lib.hid hfin
    clear hG hcl hdep hfr hK hfin hLi 
    go_simp
    exact HK.out
  | 58, ho =>
    simp only [opsKn25, List.getElem?_toArray, List.getElem?_cons_succ, List.getElem?_cons_zero, Option.some.injEq] at ho
    subst ho
    have xg : a.tmps[160]?.getD undef = .bool true := by rw [← ev]; exact hG.val 57 57 160 _ rfl (hdep ⟨57, .guard⟩ (by simp) rfl)
    have hw := wanted_of (ops := opsKn25) (a := a) (o := { dst := some 161, op := Op.move (Operand.tmp 19), type := 24, pos := "law.go:62", after := #[{ on := 57, ground := Ground.guard }], guard := some (57, true) }) (g := 57) (s := 160) (b := true) (b' := true) rfl rfl xg
    replace hw := hw.trans (show (true == true) = true from rfl)
    rw [if_pos hw]
    clear hw xg
    have hfin := hK (.int .i64 7) w (hG.quiet 58 58 161 _ rfl (by kernel_rfl) (by kernel_rfl))
    have HK := Lib.hid hfin
    clear hG hcl hdep hfr hK hfin hLi 
    go_simp
    exact HK.out
  | 59, ho =>
    simp only [opsKn25, List.getElem?_toArray, List.getElem?_cons_succ, List.getElem?_cons_zero, Option.some.injEq] at ho
    subst ho
    have x161 : a.tmps[161]?.getD undef = .int .i64 7 := by rw [← ev]; exact hG.val 58 58 161 _ rfl (hdep ⟨58, .data⟩ (by simp) rfl)
    have xg : a.tmps[160]?.getD undef = .bool true := by rw [← ev]; exact hG.val 57 57 160 _ rfl (hdep ⟨57, .guard⟩ (by simp) rfl)
    have hw := wanted_of (ops := opsKn25) (a := a) (o := { dst := some 162, op := Op.binOp BinOp.eql 24 (Operand.tmp 161) (Operand.const (Value.int IntKind.i64 7)) 24, type := 4, pos := "law.go:62", after := #[{ on := 58, ground := Ground.data }, { on := 57, ground := Ground.guard }], guard := some (57, true) }) (g := 57) (s := 160) (b := true) (b' := true) rfl rfl xg
    replace hw := hw.trans (show (true == true) = true from rfl)
    rw [if_pos hw]
    clear hw xg
    have hfin := hK (.bool true) w (hG.quiet 59 59 162 _ rfl (by kernel_rfl) (by kernel_rfl))
    have HK := Lib.hid hfin
    clear hG hcl hdep hfr hK hfin hLi 
    go_simp
    exact HK.out
  | 60, ho =>
    simp only [opsKn25, List.getElem?_toArray, List.getElem?_cons_succ, List.getElem?_cons_zero, Option.some.injEq] at ho
    subst ho
    have x160 : a.tmps[160]?.getD undef = .bool true := by rw [← ev]; exact hG.val 57 57 160 _ rfl (hdep ⟨57, .data⟩ (by simp) rfl)
    have x162 : a.tmps[162]?.getD undef = .bool true := by rw [← ev]; exact hG.val 59 59 162 _ rfl (hdep ⟨59, .data⟩ (by simp) rfl)
    rw [if_pos (show Region.wanted _ _ = true from rfl)]
    have hfin := hK (.bool true) w (hG.quiet 60 60 163 _ rfl (by kernel_rfl) (by kernel_rfl))
    have HK := Lib.hid hfin
    clear hG hcl hdep hfr hK hfin hLi 
    go_simp
    exact HK.out
  | 61, ho =>
    simp only [opsKn25, List.getElem?_toArray, List.getElem?_cons_succ, List.getElem?_cons_zero, Option.some.injEq] at ho
    subst ho
    have x163 : a.tmps[163]?.getD undef = .bool true := by rw [← ev]; exact hG.val 60 60 163 _ rfl (hdep ⟨60, .data⟩ (by simp) rfl)
    rw [if_pos (show Region.wanted _ _ = true from rfl)]
    have hfin := hK (.bool true) w (hG.quiet 61 61 164 _ rfl (by kernel_rfl) (by kernel_rfl))
    have HK := Lib.hid hfin
    clear hG hcl hdep hfr hK hfin hLi 
    go_simp
    exact HK.out
  | 62, ho =>
    simp only [opsKn25, List.getElem?_toArray, List.getElem?_cons_succ, List.getElem?_cons_zero, Option.some.injEq] at ho
    subst ho
    have xg : a.tmps[164]?.getD undef = .bool true := by rw [← ev]; exact hG.val 61 61 164 _ rfl (hdep ⟨61, .guard⟩ (by simp) rfl)
    have hw := wanted_of (ops := opsKn25) (a := a) (o := { dst := some 165, op := Op.move (Operand.tmp 20), type := 28, pos := "law.go:62", after := #[{ on := 61, ground := Ground.guard }], guard := some (61, true) }) (g := 61) (s := 164) (b := true) (b' := true) rfl rfl xg
    replace hw := hw.trans (show (true == true) = true from rfl)
    rw [if_pos hw]
    clear hw xg
    have hfin := hK (.slice (some ⟨bz, 0, none⟩) 512 cz) w (hG.quiet 62 62 165 _ rfl (by kernel_rfl) (by kernel_rfl))
    have HK := Lib.hid hfin
    clear hG hcl hdep hfr hK hfin hLi 
    go_simp
    exact HK.out
  | 63, ho =>
    simp only [opsKn25, List.getElem?_toArray, List.getElem?_cons_succ, List.getElem?_cons_zero, Option.some.injEq] at ho
    subst ho
    have x165 : a.tmps[165]?.getD undef = .slice (some ⟨bz, 0, none⟩) 512 cz := by rw [← ev]; exact hG.val 62 62 165 _ rfl (hdep ⟨62, .data⟩ (by simp) rfl)
    have xg : a.tmps[164]?.getD undef = .bool true := by rw [← ev]; exact hG.val 61 61 164 _ rfl (hdep ⟨61, .guard⟩ (by simp) rfl)
    have hw := wanted_of (ops := opsKn25) (a := a) (o := { dst := some 166, op := Op.convert 28 9 (Operand.tmp 165), type := 9, pos := "law.go:62", after := #[{ on := 62, ground := Ground.data }, { on := 61, ground := Ground.guard }], guard := some (61, true) }) (g := 61) (s := 164) (b := true) (b' := true) rfl rfl xg
    replace hw := hw.trans (show (true == true) = true from rfl)
    rw [if_pos hw]
    clear hw xg
    obtain ⟨ph, hSp, hdone⟩ := hG.any
    have hfin := hK (.string z) w (hG.quiet 63 63 166 _ rfl (by kernel_rfl) (by kernel_rfl))
    have HK := Lib.hid hfin
    generalize (resOf kn25C fun t => a.eval (.tmp t)) = R at *
    have hcv := hconv _ _ _ hSp
    clear hconv hconv2 hc1 hc2 hx hr
    clear hSp hdone
    clear hG hcl hdep hfr hK hfin hLi 
    go_simp
    exact HK.out
  | 64, ho =>
    simp only [opsKn25, List.getElem?_toArray, List.getElem?_cons_succ, List.getElem?_cons_zero, Option.some.injEq] at ho
    subst ho
    have xg : a.tmps[164]?.getD undef = .bool true := by rw [← ev]; exact hG.val 61 61 164 _ rfl (hdep ⟨61, .chain⟩ (by simp) rfl)
    have hw := wanted_of (ops := opsKn25) (a := a) (o := { dst := some 167, op := Op.call { callee := Callee.value (Operand.func 11), args := #[Operand.const (Value.int IntKind.u8 0)], argTypes := #[5] }, type := 28, pos := "law.go:62", after := #[{ on := 61, ground := Ground.chain }, { on := 61, ground := Ground.guard }], guard := some (61, true) }) (g := 61) (s := 164) (b := true) (b' := true) rfl rfl xg
    replace hw := hw.trans (show (true == true) = true from rfl)
    rw [if_pos hw]
    clear hw xg
    have hSj := hG.at 0 (64, 167) rfl hLi (fun c h0 hc => absurd h0 (by decide))
    have hfin := fun v w' hs => hK v w' (hG.call 0 (64, 167) rfl hLi (fun c h0 hc => absurd h0 (by decide)) (by kernel_rfl) v w' hs)
    have HK := Lib.hid hfin
    generalize (resOf kn25C fun t => a.eval (.tmp t)) = R at *
    clear hG hcl hdep hfr hK hfin hLi
    have hc := Lib.hid (hc1 _ _ hSj)
    clear hSj hconv hconv2 hc1 hc2 hx hr
    go_simp
    go_at_call 11
    refine hc.out.mono ?_
    rintro e w' ⟨v, rfl, hs⟩
    exact HK.out v w' hs
  | 65, ho =>
    simp only [opsKn25, List.getElem?_toArray, List.getElem?_cons_succ, List.getElem?_cons_zero, Option.some.injEq] at ho
    subst ho
    have xg : a.tmps[164]?.getD undef = .bool true := by rw [← ev]; exact hG.val 61 61 164 _ rfl (hdep ⟨61, .guard⟩ (by simp) rfl)
    have hw := wanted_of (ops := opsKn25) (a := a) (o := { dst := some 168, op := Op.convert 28 9 (Operand.tmp 167), type := 9, pos := "law.go:62", after := #[{ on := 64, ground := Ground.data }, { on := 61, ground := Ground.guard }], guard := some (61, true) }) (g := 61) (s := 164) (b := true) (b' := true) rfl rfl xg
    replace hw := hw.trans (show (true == true) = true from rfl)
    rw [if_pos hw]
    clear hw xg
    obtain ⟨ph, hSp, hdone⟩ := hG.any
    have hd167 : 0 < ph := hdone 0 (64, 167) rfl (hdep ⟨64, .data⟩ (by simp) rfl)
    have r167 : a.tmps[167]?.getD undef = resOf kn25C (fun t => a.eval (.tmp t)) 0 := by rw [← ev]; exact (resOf_at (C := kn25C) (j := 0) rfl a).symm
    have hfin := hK (.string z) w (hG.quiet 64 65 168 _ rfl (by kernel_rfl) (by kernel_rfl))
    have HK := Lib.hid hfin
    generalize (resOf kn25C fun t => a.eval (.tmp t)) = R at *
    obtain ⟨A2, r1, hcv⟩ := hconv2 _ _ _ hSp hd167
    rw [r1] at r167
    clear hconv hconv2 hc1 hc2 hx hr r1 hd167
    clear hSp hdone
    clear hG hcl hdep hfr hK hfin hLi 
    go_simp
    exact HK.out
  | 66, ho =>
    simp only [opsKn25, List.getElem?_toArray, List.getElem?_cons_succ, List.getElem?_cons_zero, Option.some.injEq] at ho
    subst ho
    have x166 : a.tmps[166]?.getD undef = .string z := by rw [← ev]; exact hG.val 63 63 166 _ rfl (hdep ⟨63, .data⟩ (by simp) rfl)
    have x168 : a.tmps[168]?.getD undef = .string z := by rw [← ev]; exact hG.val 64 65 168 _ rfl (hdep ⟨65, .data⟩ (by simp) rfl)
    have xg : a.tmps[164]?.getD undef = .bool true := by rw [← ev]; exact hG.val 61 61 164 _ rfl (hdep ⟨61, .guard⟩ (by simp) rfl)
    have hw := wanted_of (ops := opsKn25) (a := a) (o := { dst := some 169, op := Op.binOp BinOp.eql 9 (Operand.tmp 166) (Operand.tmp 168) 9, type := 4, pos := "law.go:62", after := #[{ on := 63, ground := Ground.data }, { on := 65, ground := Ground.data }, { on := 61, ground := Ground.guard }], guard := some (61, true) }) (g := 61) (s := 164) (b := true) (b' := true) rfl rfl xg
    replace hw := hw.trans (show (true == true) = true from rfl)
    rw [if_pos hw]
    clear hw xg
    have hfin := hK (.bool true) w (hG.quiet 65 66 169 _ rfl (by kernel_rfl) (by kernel_rfl))
    have HK := Lib.hid hfin
    clear hG hcl hdep hfr hK hfin hLi 
    go_simp
    exact HK.out
  | 67, ho =>
    simp only [opsKn25, List.getElem?_toArray, List.getElem?_cons_succ, List.getElem?_cons_zero, Option.some.injEq] at ho
    subst ho
    have x164 : a.tmps[164]?.getD undef = .bool true := by rw [← ev]; exact hG.val 61 61 164 _ rfl (hdep ⟨61, .data⟩ (by simp) rfl)
    have x169 : a.tmps[169]?.getD undef = .bool true := by rw [← ev]; exact hG.val 65 66 169 _ rfl (hdep ⟨66, .data⟩ (by simp) rfl)
    rw [if_pos (show Region.wanted _ _ = true from rfl)]
    have hfin := hK (.bool true) w (hG.quiet 66 67 170 _ rfl (by kernel_rfl) (by kernel_rfl))
    have HK := Lib.hid hfin
    clear hG hcl hdep hfr hK hfin hLi 
    go_simp
    exact HK.out
  | 68, ho =>
    simp only [opsKn25, List.getElem?_toArray, List.getElem?_cons_succ, List.getElem?_cons_zero, Option.some.injEq] at ho
    subst ho
    have x170 : a.tmps[170]?.getD undef = .bool true := by rw [← ev]; exact hG.val 66 67 170 _ rfl (hdep ⟨67, .data⟩ (by simp) rfl)
    rw [if_pos (show Region.wanted _ _ = true from rfl)]
    have hfin := hK (.bool true) w (hG.quiet 67 68 171 _ rfl (by kernel_rfl) (by kernel_rfl))
    have HK := Lib.hid hfin
    clear hG hcl hdep hfr hK hfin hLi 
    go_simp
    exact HK.out
  | 69, ho =>
    simp only [opsKn25, List.getElem?_toArray, List.getElem?_cons_succ, List.getElem?_cons_zero, Option.some.injEq] at ho
    subst ho
    have xg : a.tmps[171]?.getD undef = .bool true := by rw [← ev]; exact hG.val 67 68 171 _ rfl (hdep ⟨68, .guard⟩ (by simp) rfl)
    have hw := wanted_of (ops := opsKn25) (a := a) (o := { dst := some 172, op := Op.move (Operand.tmp 22), type := 24, pos := "law.go:62", after := #[{ on := 68, ground := Ground.guard }], guard := some (68, true) }) (g := 68) (s := 171) (b := true) (b' := true) rfl rfl xg
    replace hw := hw.trans (show (true == true) = true from rfl)
    rw [if_pos hw]
    clear hw xg
    have hfin := hK (.int .i64 0) w (hG.quiet 68 69 172 _ rfl (by kernel_rfl) (by kernel_rfl))
    have HK := Lib.hid hfin
    clear hG hcl hdep hfr hK hfin hLi 
    go_simp
    exact HK.out
  | 70, ho =>
    simp only [opsKn25, List.getElem?_toArray, List.getElem?_cons_succ, List.getElem?_cons_zero, Option.some.injEq] at ho
    subst ho
    have x172 : a.tmps[172]?.getD undef = .int .i64 0 := by rw [← ev]; exact hG.val 68 69 172 _ rfl (hdep ⟨69, .data⟩ (by simp) rfl)
    have xg : a.tmps[171]?.getD undef = .bool true := by rw [← ev]; exact hG.val 67 68 171 _ rfl (hdep ⟨68, .guard⟩ (by simp) rfl)
    have hw := wanted_of (ops := opsKn25) (a := a) (o := { dst := some 173, op := Op.binOp BinOp.eql 24 (Operand.tmp 172) (Operand.const (Value.int IntKind.i64 0)) 24, type := 4, pos := "law.go:62", after := #[{ on := 69, ground := Ground.data }, { on := 68, ground := Ground.guard }], guard := some (68, true) }) (g := 68) (s := 171) (b := true) (b' := true) rfl rfl xg
    replace hw := hw.trans (show (true == true) = true from rfl)
    rw [if_pos hw]
    clear hw xg
    have hfin := hK (.bool true) w (hG.quiet 69 70 173 _ rfl (by kernel_rfl) (by kernel_rfl))
    have HK := Lib.hid hfin
    clear hG hcl hdep hfr hK hfin hLi 
    go_simp
    exact HK.out
  | 71, ho =>
    simp only [opsKn25, List.getElem?_toArray, List.getElem?_cons_succ, List.getElem?_cons_zero, Option.some.injEq] at ho
    subst ho
    have x171 : a.tmps[171]?.getD undef = .bool true := by rw [← ev]; exact hG.val 67 68 171 _ rfl (hdep ⟨68, .data⟩ (by simp) rfl)
    have x173 : a.tmps[173]?.getD undef = .bool true := by rw [← ev]; exact hG.val 69 70 173 _ rfl (hdep ⟨70, .data⟩ (by simp) rfl)
    rw [if_pos (show Region.wanted _ _ = true from rfl)]
    have hfin := hK (.bool true) w (hG.quiet 70 71 174 _ rfl (by kernel_rfl) (by kernel_rfl))
    have HK := Lib.hid hfin
    clear hG hcl hdep hfr hK hfin hLi 
    go_simp
    exact HK.out
  | 72, ho =>
    simp only [opsKn25, List.getElem?_toArray, List.getElem?_cons_succ, List.getElem?_cons_zero, Option.some.injEq] at ho
    subst ho
    have x174 : a.tmps[174]?.getD undef = .bool true := by rw [← ev]; exact hG.val 70 71 174 _ rfl (hdep ⟨71, .data⟩ (by simp) rfl)
    rw [if_pos (show Region.wanted _ _ = true from rfl)]
    have hfin := hK (.bool true) w (hG.quiet 71 72 175 _ rfl (by kernel_rfl) (by kernel_rfl))
    have HK := Lib.hid hfin
    clear hG hcl hdep hfr hK hfin hLi 
    go_simp
    exact HK.out
  | 73, ho =>
    simp only [opsKn25, List.getElem?_toArray, List.getElem?_cons_succ, List.getElem?_cons_zero, Option.some.injEq] at ho
    subst ho
    have xg : a.tmps[175]?.getD undef = .bool true := by rw [← ev]; exact hG.val 71 72 175 _ rfl (hdep ⟨72, .guard⟩ (by simp) rfl)
    have hw := wanted_of (ops := opsKn25) (a := a) (o := { dst := some 176, op := Op.move (Operand.tmp 5), type := 23, pos := "law.go:62", after := #[{ on := 72, ground := Ground.guard }], guard := some (72, true) }) (g := 72) (s := 175) (b := true) (b' := true) rfl rfl xg
    replace hw := hw.trans (show (true == true) = true from rfl)
    rw [if_pos hw]
    clear hw xg
    have hfin := hK (.pointer (some ⟨d, 0, none⟩)) w (hG.quiet 72 73 176 _ rfl (by kernel_rfl) (by kernel_rfl))
    have HK := Lib.hid hfin
    clear hG hcl hdep hfr hK hfin hLi 
    go_simp
    exact HK.out
  | 74, ho =>
    simp only [opsKn25, List.getElem?_toArray, List.getElem?_cons_succ, List.getElem?_cons_zero, Option.some.injEq] at ho
    subst ho
    have x176 : a.tmps[176]?.getD undef = .pointer (some ⟨d, 0, none⟩) := by rw [← ev]; exact hG.val 72 73 176 _ rfl (hdep ⟨73, .data⟩ (by simp) rfl)
    have xg : a.tmps[175]?.getD undef = .bool true := by rw [← ev]; exact hG.val 71 72 175 _ rfl (hdep ⟨72, .chain⟩ (by simp) rfl)
    have hw := wanted_of (ops := opsKn25) (a := a) (o := { dst := some 177, op := Op.call { callee := Callee.value (Operand.func 19), args := #[Operand.tmp 176], argTypes := #[23] }, type := 3, pos := "law.go:62", after := #[{ on := 73, ground := Ground.data }, { on := 72, ground := Ground.chain }, { on := 72, ground := Ground.guard }], guard := some (72, true) }) (g := 72) (s := 175) (b := true) (b' := true) rfl rfl xg
    replace hw := hw.trans (show (true == true) = true from rfl)
    rw [if_pos hw]
    clear hw xg
    have hSj := hG.at 1 (74, 177) rfl hLi (fun c h0 hc => by simp [kn25C] at hc; subst hc; exact hcl 68 _ rfl (hcl 72 _ rfl (hdep ⟨72, .chain⟩ (by simp) rfl) ⟨68, .chain⟩ (by simp [opsKn25]) rfl) ⟨64, .chain⟩ (by simp [opsKn25]) rfl)
    have hfin := fun v w' hs => hK v w' (hG.call 1 (74, 177) rfl hLi (fun c h0 hc => by simp [kn25C] at hc; subst hc; exact hcl 68 _ rfl (hcl 72 _ rfl (hdep ⟨72, .chain⟩ (by simp) rfl) ⟨68, .chain⟩ (by simp [opsKn25]) rfl) ⟨64, .chain⟩ (by simp [opsKn25]) rfl) (by kernel_rfl) v w' hs)
    have HK := Lib.hid hfin
    generalize (resOf kn25C fun t => a.eval (.tmp t)) = R at *
    clear hG hcl hdep hfr hK hfin hLi
    have hc := Lib.hid (hc2 _ _ hSj)
    clear hSj hconv hconv2 hc1 hc2 hx hr
    go_simp
    go_at_call 19
    refine hc.out.mono ?_
    rintro e w' ⟨v, rfl, hs⟩
    exact HK.out v w' hs
  | 75, ho =>
    simp only [opsKn25, List.getElem?_toArray, List.getElem?_cons_succ, List.getElem?_cons_zero, Option.some.injEq] at ho
    subst ho
    have xg : a.tmps[175]?.getD undef = .bool true := by rw [← ev]; exact hG.val 71 72 175 _ rfl (hdep ⟨72, .guard⟩ (by simp) rfl)
    have hw := wanted_of (ops := opsKn25) (a := a) (o := { dst := some 178, op := Op.binOp BinOp.eql 3 (Operand.tmp 177) (Operand.const (Value.int IntKind.i64 4)) 3, type := 4, pos := "law.go:62", after := #[{ on := 74, ground := Ground.data }, { on := 72, ground := Ground.guard }], guard := some (72, true) }) (g := 72) (s := 175) (b := true) (b' := true) rfl rfl xg
    replace hw := hw.trans (show (true == true) = true from rfl)
    rw [if_pos hw]
    clear hw xg
    obtain ⟨ph, hSp, hdone⟩ := hG.any
    have hd177 : 1 < ph := hdone 1 (74, 177) rfl (hdep ⟨74, .data⟩ (by simp) rfl)
    have r177 : a.tmps[177]?.getD undef = resOf kn25C (fun t => a.eval (.tmp t)) 1 := by rw [← ev]; exact (resOf_at (C := kn25C) (j := 1) rfl a).symm
    have hfin := hK (.bool true) w (hG.quiet 73 75 178 _ rfl (by kernel_rfl) (by kernel_rfl))
    have HK := Lib.hid hfin
    generalize (resOf kn25C fun t => a.eval (.tmp t)) = R at *
    have r1 := hr _ _ _ hSp hd177
    rw [r1] at r177
    clear hconv hconv2 hc1 hc2 hx hr r1 hd177
    clear hSp hdone
    clear hG hcl hdep hfr hK hfin hLi 
    go_simp
    exact HK.out
  | 76, ho =>
    simp only [opsKn25, List.getElem?_toArray, List.getElem?_cons_succ, List.getElem?_cons_zero, Option.some.injEq] at ho
    subst ho
    have x175 : a.tmps[175]?.getD undef = .bool true := by rw [← ev]; exact hG.val 71 72 175 _ rfl (hdep ⟨72, .data⟩ (by simp) rfl)
    have x178 : a.tmps[178]?.getD undef = .bool true := by rw [← ev]; exact hG.val 73 75 178 _ rfl (hdep ⟨75, .data⟩ (by simp) rfl)
    rw [if_pos (show Region.wanted _ _ = true from rfl)]
    have hfin := hK (.bool true) w (hG.quiet 74 76 179 _ rfl (by kernel_rfl) (by kernel_rfl))
    have HK := Lib.hid hfin
    clear hG hcl hdep hfr hK hfin hLi 
    go_simp
    exact HK.out
  | 77, ho =>
    simp only [opsKn25, List.getElem?_toArray, List.getElem?_cons_succ, List.getElem?_cons_zero, Option.some.injEq] at ho
    subst ho
    have x179 : a.tmps[179]?.getD undef = .bool true := by rw [← ev]; exact hG.val 74 76 179 _ rfl (hdep ⟨76, .data⟩ (by simp) rfl)
    rw [if_pos (show Region.wanted _ _ = true from rfl)]
    have hfin := hK (.bool true) w (hG.quiet 75 77 0 _ rfl (by kernel_rfl) (by kernel_rfl))
    have HK := Lib.hid hfin
    clear hG hcl hdep hfr hK hfin hLi 
    go_simp
    exact HK.out
  | n + 78, ho => exact absurd (Array.getElem?_eq_some_iff.1 ho).1 (by show ¬ n + 78 < 78; omega)
end Go.Proofs.Ytnbcdidenmakiaa
