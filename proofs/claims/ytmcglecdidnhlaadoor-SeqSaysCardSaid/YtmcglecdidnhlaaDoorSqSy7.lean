/- SeqSays: what the package answers and what the reference answers. -/
import Derived.Test.YtmcglecdidnhlaaDoorVals
import Derived.Test.YtmcglecdidnhlaaDoorAppend
import Derived.WalkKit
import Derived.WalkSpells
import Derived.WalkLawsBesides
import Derived.Lib.Hide
namespace Go.Proofs.YtmcglecdidnhlaaDoor
open Go.RowKit
set_option linter.unusedVariables false
set_option linter.unusedSimpArgs false

def opsSqsy7 : Array Oper := #[
  { dst := some 41, op := Op.load 25 (Operand.tmp 11), type := 25, pos := "law.go:81", after := #[], guard := none },
  { dst := some 42, op := Op.load 37 (Operand.tmp 13), type := 37, pos := "law.go:81", after := #[], guard := none },
  { dst := some 43, op := Op.call { callee := Callee.value (Operand.func 16), args := #[Operand.tmp 41, Operand.tmp 42], argTypes := #[25, 37] }, type := 4, pos := "law.go:81", after := #[{ on := 0, ground := Ground.data }, { on := 1, ground := Ground.data }], guard := none },
  { dst := some 44, op := Op.move (Operand.tmp 43), type := 4, pos := "law.go:81", after := #[{ on := 2, ground := Ground.data }, { on := 2, ground := Ground.chain }], guard := none },
  { dst := some 45, op := Op.move (Operand.tmp 12), type := 26, pos := "law.go:81", after := #[{ on := 3, ground := Ground.guard }], guard := some (3, true) },
  { dst := some 46, op := Op.move (Operand.tmp 14), type := 26, pos := "law.go:81", after := #[{ on := 3, ground := Ground.guard }], guard := some (3, true) },
  { dst := some 47, op := Op.binOp BinOp.eql 26 (Operand.tmp 45) (Operand.tmp 46) 26, type := 4, pos := "law.go:81", after := #[{ on := 4, ground := Ground.data }, { on := 5, ground := Ground.data }, { on := 3, ground := Ground.guard }], guard := some (3, true) },
  { dst := some 48, op := Op.pick (Operand.tmp 44) (Operand.tmp 47) (Operand.const (Value.bool false)), type := 4, pos := "law.go:81", after := #[{ on := 3, ground := Ground.data }, { on := 6, ground := Ground.data }], guard := none },
  { dst := some 49, op := Op.move (Operand.tmp 48), type := 4, pos := "law.go:81", after := #[{ on := 7, ground := Ground.data }, { on := 3, ground := Ground.chain }], guard := none },
  { dst := some 50, op := Op.load 25 (Operand.tmp 6), type := 25, pos := "law.go:81", after := #[{ on := 8, ground := Ground.guard }], guard := some (8, true) },
  { dst := some 51, op := Op.call { callee := Callee.value (Operand.func 11), args := #[Operand.tmp 50], argTypes := #[25] }, type := 9, pos := "law.go:81", after := #[{ on := 9, ground := Ground.data }, { on := 8, ground := Ground.chain }, { on := 8, ground := Ground.guard }], guard := some (8, true) },
  { dst := some 52, op := Op.load 25 (Operand.tmp 6), type := 25, pos := "law.go:81", after := #[{ on := 8, ground := Ground.guard }], guard := some (8, true) },
  { dst := some 53, op := Op.call { callee := Callee.value (Operand.func 18), args := #[Operand.tmp 52], argTypes := #[25] }, type := 37, pos := "law.go:81", after := #[{ on := 11, ground := Ground.data }, { on := 10, ground := Ground.chain }, { on := 8, ground := Ground.guard }], guard := some (8, true) },
  { dst := some 54, op := Op.call { callee := Callee.value (Operand.func 17), args := #[Operand.tmp 53], argTypes := #[37] }, type := 9, pos := "law.go:81", after := #[{ on := 12, ground := Ground.data }, { on := 12, ground := Ground.chain }, { on := 8, ground := Ground.guard }], guard := some (8, true) },
  { dst := some 55, op := Op.binOp BinOp.eql 9 (Operand.tmp 51) (Operand.tmp 54) 9, type := 4, pos := "law.go:81", after := #[{ on := 10, ground := Ground.data }, { on := 13, ground := Ground.data }, { on := 8, ground := Ground.guard }], guard := some (8, true) },
  { dst := some 56, op := Op.pick (Operand.tmp 49) (Operand.tmp 55) (Operand.const (Value.bool false)), type := 4, pos := "law.go:81", after := #[{ on := 8, ground := Ground.data }, { on := 14, ground := Ground.data }], guard := none },
  { dst := some 57, op := Op.move (Operand.tmp 56), type := 4, pos := "law.go:81", after := #[{ on := 15, ground := Ground.data }, { on := 13, ground := Ground.chain }], guard := none },
  { dst := some 58, op := Op.load 25 (Operand.tmp 6), type := 25, pos := "law.go:81", after := #[{ on := 16, ground := Ground.guard }], guard := some (16, true) },
  { dst := some 59, op := Op.move (Operand.tmp 2), type := 2, pos := "law.go:81", after := #[{ on := 16, ground := Ground.guard }], guard := some (16, true) },
  { dst := some 60, op := Op.move (Operand.tmp 3), type := 2, pos := "law.go:81", after := #[{ on := 16, ground := Ground.guard }], guard := some (16, true) },
  { dst := some 61, op := Op.call { callee := Callee.value (Operand.func 12), args := #[Operand.tmp 58, Operand.tmp 59, Operand.tmp 60], argTypes := #[25, 2, 2] }, type := 4, pos := "law.go:81", after := #[{ on := 17, ground := Ground.data }, { on := 18, ground := Ground.data }, { on := 19, ground := Ground.data }, { on := 16, ground := Ground.chain }, { on := 16, ground := Ground.guard }], guard := some (16, true) },
  { dst := some 62, op := Op.load 25 (Operand.tmp 6), type := 25, pos := "law.go:81", after := #[{ on := 16, ground := Ground.guard }], guard := some (16, true) },
  { dst := some 63, op := Op.call { callee := Callee.value (Operand.func 18), args := #[Operand.tmp 62], argTypes := #[25] }, type := 37, pos := "law.go:81", after := #[{ on := 21, ground := Ground.data }, { on := 20, ground := Ground.chain }, { on := 16, ground := Ground.guard }], guard := some (16, true) },
  { dst := some 64, op := Op.move (Operand.tmp 2), type := 2, pos := "law.go:81", after := #[{ on := 16, ground := Ground.guard }], guard := some (16, true) },
  { dst := some 65, op := Op.move (Operand.tmp 3), type := 2, pos := "law.go:81", after := #[{ on := 16, ground := Ground.guard }], guard := some (16, true) },
  { dst := some 66, op := Op.call { callee := Callee.value (Operand.func 19), args := #[Operand.tmp 63, Operand.tmp 64, Operand.tmp 65], argTypes := #[37, 2, 2] }, type := 4, pos := "law.go:81", after := #[{ on := 22, ground := Ground.data }, { on := 23, ground := Ground.data }, { on := 24, ground := Ground.data }, { on := 22, ground := Ground.chain }, { on := 16, ground := Ground.guard }], guard := some (16, true) },
  { dst := some 67, op := Op.binOp BinOp.eql 4 (Operand.tmp 61) (Operand.tmp 66) 4, type := 4, pos := "law.go:81", after := #[{ on := 20, ground := Ground.data }, { on := 25, ground := Ground.data }, { on := 16, ground := Ground.guard }], guard := some (16, true) },
  { dst := some 68, op := Op.pick (Operand.tmp 57) (Operand.tmp 67) (Operand.const (Value.bool false)), type := 4, pos := "law.go:81", after := #[{ on := 16, ground := Ground.data }, { on := 26, ground := Ground.data }], guard := none },
  { dst := some 69, op := Op.move (Operand.tmp 68), type := 4, pos := "law.go:81", after := #[{ on := 27, ground := Ground.data }, { on := 25, ground := Ground.chain }], guard := none },
  { dst := some 70, op := Op.load 25 (Operand.tmp 6), type := 25, pos := "law.go:81", after := #[{ on := 28, ground := Ground.guard }], guard := some (28, true) },
  { dst := some 71, op := Op.move (Operand.tmp 4), type := 30, pos := "law.go:81", after := #[{ on := 28, ground := Ground.guard }], guard := some (28, true) },
  { dst := some 72, op := Op.call { callee := Callee.value (Operand.func 14), args := #[Operand.tmp 70, Operand.tmp 71], argTypes := #[25, 30] }, type := 30, pos := "law.go:81", after := #[{ on := 29, ground := Ground.data }, { on := 30, ground := Ground.data }, { on := 28, ground := Ground.chain }, { on := 28, ground := Ground.guard }], guard := some (28, true) },
  { dst := some 73, op := Op.load 25 (Operand.tmp 6), type := 25, pos := "law.go:81", after := #[{ on := 28, ground := Ground.guard }], guard := some (28, true) },
  { dst := some 74, op := Op.call { callee := Callee.value (Operand.func 18), args := #[Operand.tmp 73], argTypes := #[25] }, type := 37, pos := "law.go:81", after := #[{ on := 32, ground := Ground.data }, { on := 31, ground := Ground.chain }, { on := 28, ground := Ground.guard }], guard := some (28, true) },
  { dst := some 75, op := Op.move (Operand.tmp 4), type := 30, pos := "law.go:81", after := #[{ on := 28, ground := Ground.guard }], guard := some (28, true) },
  { dst := some 76, op := Op.call { callee := Callee.value (Operand.func 20), args := #[Operand.tmp 74, Operand.tmp 75], argTypes := #[37, 30] }, type := 30, pos := "law.go:81", after := #[{ on := 33, ground := Ground.data }, { on := 34, ground := Ground.data }, { on := 33, ground := Ground.chain }, { on := 28, ground := Ground.guard }], guard := some (28, true) },
  { dst := some 77, op := Op.call { callee := Callee.value (Operand.func 13), args := #[Operand.tmp 72, Operand.tmp 76], argTypes := #[30, 30] }, type := 4, pos := "law.go:81", after := #[{ on := 31, ground := Ground.data }, { on := 35, ground := Ground.data }, { on := 35, ground := Ground.chain }, { on := 28, ground := Ground.guard }], guard := some (28, true) },
  { dst := some 78, op := Op.pick (Operand.tmp 69) (Operand.tmp 77) (Operand.const (Value.bool false)), type := 4, pos := "law.go:81", after := #[{ on := 28, ground := Ground.data }, { on := 36, ground := Ground.data }], guard := none },
  { dst := some 79, op := Op.move (Operand.tmp 78), type := 4, pos := "law.go:81", after := #[{ on := 37, ground := Ground.data }, { on := 36, ground := Ground.chain }], guard := none },
  { dst := some 80, op := Op.move (Operand.tmp 4), type := 30, pos := "law.go:81", after := #[{ on := 38, ground := Ground.guard }], guard := some (38, true) },
  { dst := some 81, op := Op.call { callee := Callee.value (Operand.func 10), args := #[Operand.tmp 80], argTypes := #[30] }, type := 25, pos := "law.go:81", after := #[{ on := 39, ground := Ground.data }, { on := 38, ground := Ground.chain }, { on := 38, ground := Ground.guard }], guard := some (38, true) },
  { dst := some 82, op := Op.move (Operand.tmp 4), type := 30, pos := "law.go:81", after := #[{ on := 38, ground := Ground.guard }], guard := some (38, true) },
  { dst := some 83, op := Op.call { callee := Callee.value (Operand.func 21), args := #[Operand.tmp 82], argTypes := #[30] }, type := 37, pos := "law.go:81", after := #[{ on := 41, ground := Ground.data }, { on := 40, ground := Ground.chain }, { on := 38, ground := Ground.guard }], guard := some (38, true) },
  { dst := some 84, op := Op.call { callee := Callee.value (Operand.func 16), args := #[Operand.tmp 81, Operand.tmp 83], argTypes := #[25, 37] }, type := 4, pos := "law.go:81", after := #[{ on := 40, ground := Ground.data }, { on := 42, ground := Ground.data }, { on := 42, ground := Ground.chain }, { on := 38, ground := Ground.guard }], guard := some (38, true) },
  { dst := some 85, op := Op.pick (Operand.tmp 79) (Operand.tmp 84) (Operand.const (Value.bool false)), type := 4, pos := "law.go:81", after := #[{ on := 38, ground := Ground.data }, { on := 43, ground := Ground.data }], guard := none },
  { dst := some 10, op := Op.assign (Operand.tmp 85), type := 4, pos := "law.go:81", after := #[{ on := 44, ground := Ground.data }, { on := 43, ground := Ground.chain }, { on := 0, ground := Ground.phase }, { on := 1, ground := Ground.phase }, { on := 2, ground := Ground.phase }, { on := 3, ground := Ground.phase }, { on := 4, ground := Ground.phase }, { on := 5, ground := Ground.phase }, { on := 6, ground := Ground.phase }, { on := 7, ground := Ground.phase }, { on := 8, ground := Ground.phase }, { on := 9, ground := Ground.phase }, { on := 10, ground := Ground.phase }, { on := 11, ground := Ground.phase }, { on := 12, ground := Ground.phase }, { on := 13, ground := Ground.phase }, { on := 14, ground := Ground.phase }, { on := 15, ground := Ground.phase }, { on := 16, ground := Ground.phase }, { on := 17, ground := Ground.phase }, { on := 18, ground := Ground.phase }, { on := 19, ground := Ground.phase }, { on := 20, ground := Ground.phase }, { on := 21, ground := Ground.phase }, { on := 22, ground := Ground.phase }, { on := 23, ground := Ground.phase }, { on := 24, ground := Ground.phase }, { on := 25, ground := Ground.phase }, { on := 26, ground := Ground.phase }, { on := 27, ground := Ground.phase }, { on := 28, ground := Ground.phase }, { on := 29, ground := Ground.phase }, { on := 30, ground := Ground.phase }, { on := 31, ground := Ground.phase }, { on := 32, ground := Ground.phase }, { on := 33, ground := Ground.phase }, { on := 34, ground := Ground.phase }, { on := 35, ground := Ground.phase }, { on := 36, ground := Ground.phase }, { on := 37, ground := Ground.phase }, { on := 38, ground := Ground.phase }, { on := 39, ground := Ground.phase }, { on := 40, ground := Ground.phase }, { on := 41, ground := Ground.phase }, { on := 42, ground := Ground.phase }, { on := 43, ground := Ground.phase }, { on := 44, ground := Ground.phase }], guard := none }]

def sqsy7Vals (b6 b11 b13 n6 c6 n11 c11 n13 c13 n4 c4 : Nat) (A6 A11 A13 A4 : Option Addr) (x y en : Int) (sh : ByteArray) (B : Bool) : List (Nat × Nat × Value) := [(0, 41, .agg #[.slice A11 n11 c11]), (1, 42, .agg #[.slice A13 n13 c13]), (3, 44, .bool true), (4, 45, .int .i64 en), (5, 46, .int .i64 en), (6, 47, .bool true), (7, 48, .bool true), (8, 49, .bool true), (9, 50, .agg #[.slice A6 n6 c6]), (11, 52, .agg #[.slice A6 n6 c6]), (14, 55, .bool true), (15, 56, .bool true), (16, 57, .bool true), (17, 58, .agg #[.slice A6 n6 c6]), (18, 59, .int .i64 x), (19, 60, .int .i64 y), (21, 62, .agg #[.slice A6 n6 c6]), (23, 64, .int .i64 x), (24, 65, .int .i64 y), (26, 67, .bool true), (27, 68, .bool true), (28, 69, .bool true), (29, 70, .agg #[.slice A6 n6 c6]), (30, 71, .slice A4 n4 c4), (32, 73, .agg #[.slice A6 n6 c6]), (34, 75, .slice A4 n4 c4), (37, 78, .bool true), (38, 79, .bool true), (39, 80, .slice A4 n4 c4), (41, 82, .slice A4 n4 c4), (44, 85, .bool true), (45, 10, .bool true)]
def sqsy7C : List (Nat × Nat) := [(2, 43), (10, 51), (12, 53), (13, 54), (20, 61), (22, 63), (25, 66), (31, 72), (33, 74), (35, 76), (36, 77), (40, 81), (42, 83), (43, 84)]

set_option maxHeartbeats 16000000 in
set_option maxRecDepth 100000 in
theorem sqsy7 {Q : Exit → Act → World → Prop} {a0 : Act} {wp : World} (b6 b11 b13 n6 c6 n11 c11 n13 c13 n4 c4 : Nat) (A6 A11 A13 A4 : Option Addr) (x y en : Int) (sh : ByteArray) (B : Bool) (S : Nat → (Nat → Value) → World → Prop)
    (hsz : 85 < a0.tmps.size) (in2 : a0.eval (.tmp 2) = .int .i64 x) (in3 : a0.eval (.tmp 3) = .int .i64 y) (in4 : a0.eval (.tmp 4) = .slice A4 n4 c4) (in6 : a0.eval (.tmp 6) = .pointer (some ⟨b6, 0, none⟩)) (in11 : a0.eval (.tmp 11) = .pointer (some ⟨b11, 0, none⟩)) (in12 : a0.eval (.tmp 12) = .int .i64 en) (in13 : a0.eval (.tmp 13) = .pointer (some ⟨b13, 0, none⟩)) (in14 : a0.eval (.tmp 14) = .int .i64 en)
    (hx : ∀ p R w, S p R w → w.cell? ⟨b6, 0, none⟩ = some (.slice A6 n6 c6) ∧ w.cell? ⟨b11, 0, none⟩ = some (.slice A11 n11 c11) ∧ w.cell? ⟨b13, 0, none⟩ = some (.slice A13 n13 c13))
    (hv : ∀ p R w, S p R w → ∀ k, k < p → (k = 0 ∨ k = 10 ∨ k = 13 → R k = .bool true) ∧ (k = 1 ∨ k = 3 → R k = .string sh) ∧ (k = 4 ∨ k = 6 → R k = .bool B))
    (hc0 : ∀ R w, S 0 R w → Calls Tryd.prog 16 #[.agg #[.slice A11 n11 c11], .agg #[.slice A13 n13 c13]] w fun e w' => ∃ v, e = .returned v ∧ S 1 (setR R 0 v) w')
    (hc1 : ∀ R w, S 1 R w → Calls Tryd.prog 11 #[.agg #[.slice A6 n6 c6]] w fun e w' => ∃ v, e = .returned v ∧ S 2 (setR R 1 v) w')
    (hc2 : ∀ R w, S 2 R w → Calls Tryd.prog 18 #[.agg #[.slice A6 n6 c6]] w fun e w' => ∃ v, e = .returned v ∧ S 3 (setR R 2 v) w')
    (hc3 : ∀ R w, S 3 R w → Calls Tryd.prog 17 #[R 2] w fun e w' => ∃ v, e = .returned v ∧ S 4 (setR R 3 v) w')
    (hc4 : ∀ R w, S 4 R w → Calls Tryd.prog 12 #[.agg #[.slice A6 n6 c6], .int .i64 x, .int .i64 y] w fun e w' => ∃ v, e = .returned v ∧ S 5 (setR R 4 v) w')
    (hc5 : ∀ R w, S 5 R w → Calls Tryd.prog 18 #[.agg #[.slice A6 n6 c6]] w fun e w' => ∃ v, e = .returned v ∧ S 6 (setR R 5 v) w')
    (hc6 : ∀ R w, S 6 R w → Calls Tryd.prog 19 #[R 5, .int .i64 x, .int .i64 y] w fun e w' => ∃ v, e = .returned v ∧ S 7 (setR R 6 v) w')
    (hc7 : ∀ R w, S 7 R w → Calls Tryd.prog 14 #[.agg #[.slice A6 n6 c6], .slice A4 n4 c4] w fun e w' => ∃ v, e = .returned v ∧ S 8 (setR R 7 v) w')
    (hc8 : ∀ R w, S 8 R w → Calls Tryd.prog 18 #[.agg #[.slice A6 n6 c6]] w fun e w' => ∃ v, e = .returned v ∧ S 9 (setR R 8 v) w')
    (hc9 : ∀ R w, S 9 R w → Calls Tryd.prog 20 #[R 8, .slice A4 n4 c4] w fun e w' => ∃ v, e = .returned v ∧ S 10 (setR R 9 v) w')
    (hc10 : ∀ R w, S 10 R w → Calls Tryd.prog 13 #[R 7, R 9] w fun e w' => ∃ v, e = .returned v ∧ S 11 (setR R 10 v) w')
    (hc11 : ∀ R w, S 11 R w → Calls Tryd.prog 10 #[.slice A4 n4 c4] w fun e w' => ∃ v, e = .returned v ∧ S 12 (setR R 11 v) w')
    (hc12 : ∀ R w, S 12 R w → Calls Tryd.prog 21 #[.slice A4 n4 c4] w fun e w' => ∃ v, e = .returned v ∧ S 13 (setR R 12 v) w')
    (hc13 : ∀ R w, S 13 R w → Calls Tryd.prog 16 #[R 11, R 12] w fun e w' => ∃ v, e = .returned v ∧ S 14 (setR R 13 v) w')
    (hS : S 0 (resOf sqsy7C fun t => a0.eval (.tmp t)) wp.drew)
    (fin : ∀ a w, Fr [41, 42, 43, 44, 45, 46, 47, 48, 49, 50, 51, 52, 53, 54, 55, 56, 57, 58, 59, 60, 61, 62, 63, 64, 65, 66, 67, 68, 69, 70, 71, 72, 73, 74, 75, 76, 77, 78, 79, 80, 81, 82, 83, 84, 85, 10] a0 a → a.eval (.tmp 10) = .bool true → S 14 (resOf sqsy7C fun t => a.eval (.tmp t)) w → Q .normal a w) :
    (Code.region 7 opsSqsy7 true).wp Tryd.prog Q a0 wp := by
  refine region_inv (by kernel_rfl) [41, 42, 43, 44, 45, 46, 47, 48, 49, 50, 51, 52, 53, 54, 55, 56, 57, 58, 59, 60, 61, 62, 63, 64, 65, 66, 67, 68, 69, 70, 71, 72, 73, 74, 75, 76, 77, 78, 79, 80, 81, 82, 83, 84, 85, 10] (by kernel_rfl) (by kernel_rfl) (fun t ht => by simp at ht; omega) (GV (sqsy7Vals b6 b11 b13 n6 c6 n11 c11 n13 c13 n4 c4 A6 A11 A13 A4 x y en sh B) sqsy7C S) (.start hS) ?_
    (fun L a w hf hall hG => fin a w hf (hG.val 31 45 10 _ rfl (hall 45 (by decide))) (hG.fin (fun c hc => by simp [sqsy7C] at hc; rcases hc with rfl | rfl | rfl | rfl | rfl | rfl | rfl | rfl | rfl | rfl | rfl | rfl | rfl | rfl <;> exact hall _ (by decide))))
  clear hS fin
  intro ix oo ho L a w hfr hG hLi hdep hcl K hK
  have e2 : a.tmps[2]?.getD undef = .int .i64 x := by rw [← ev]; exact (hfr.same 2 (by decide)).trans in2
  have e3 : a.tmps[3]?.getD undef = .int .i64 y := by rw [← ev]; exact (hfr.same 3 (by decide)).trans in3
  have e4 : a.tmps[4]?.getD undef = .slice A4 n4 c4 := by rw [← ev]; exact (hfr.same 4 (by decide)).trans in4
  have e6 : a.tmps[6]?.getD undef = .pointer (some ⟨b6, 0, none⟩) := by rw [← ev]; exact (hfr.same 6 (by decide)).trans in6
  have e11 : a.tmps[11]?.getD undef = .pointer (some ⟨b11, 0, none⟩) := by rw [← ev]; exact (hfr.same 11 (by decide)).trans in11
  have e12 : a.tmps[12]?.getD undef = .int .i64 en := by rw [← ev]; exact (hfr.same 12 (by decide)).trans in12
  have e13 : a.tmps[13]?.getD undef = .pointer (some ⟨b13, 0, none⟩) := by rw [← ev]; exact (hfr.same 13 (by decide)).trans in13
  have e14 : a.tmps[14]?.getD undef = .int .i64 en := by rw [← ev]; exact (hfr.same 14 (by decide)).trans in14
  clear in2 in3 in4 in6 in11 in12 in13 in14
  match ix, ho with
  | 0, ho =>
    simp only [opsSqsy7, List.getElem?_toArray, List.getElem?_cons_zero, Option.some.injEq] at ho
    subst ho
    rw [if_pos (show Region.wanted _ _ = true from rfl)]
    obtain ⟨ph, hSp, hdone⟩ := hG.any
    have hfin := hK (.agg #[.slice A11 n11 c11]) w (hG.quiet 0 0 41 _ rfl (by kernel_rfl) (by kernel_rfl))
    have HK := Lib.hid hfin
    generalize (resOf sqsy7C fun t => a.eval (.tmp t)) = R at *
    obtain ⟨q1, q2, q3⟩ := hx _ _ _ hSp
    clear hx hv hc0 hc1 hc2 hc3 hc4 hc5 hc6 hc7 hc8 hc9 hc10 hc11 hc12 hc13 q1 q3
    clear hSp hdone
    clear hG hcl hdep hfr hK hfin hLi 
    go_simp
    exact HK.out
  | 1, ho =>
    simp only [opsSqsy7, List.getElem?_toArray, List.getElem?_cons_succ, List.getElem?_cons_zero, Option.some.injEq] at ho
    subst ho
    rw [if_pos (show Region.wanted _ _ = true from rfl)]
    obtain ⟨ph, hSp, hdone⟩ := hG.any
    have hfin := hK (.agg #[.slice A13 n13 c13]) w (hG.quiet 1 1 42 _ rfl (by kernel_rfl) (by kernel_rfl))
    have HK := Lib.hid hfin
    generalize (resOf sqsy7C fun t => a.eval (.tmp t)) = R at *
    obtain ⟨q1, q2, q3⟩ := hx _ _ _ hSp
    clear hx hv hc0 hc1 hc2 hc3 hc4 hc5 hc6 hc7 hc8 hc9 hc10 hc11 hc12 hc13 q1 q2
    clear hSp hdone
    clear hG hcl hdep hfr hK hfin hLi 
    go_simp
    exact HK.out
  | 2, ho =>
    simp only [opsSqsy7, List.getElem?_toArray, List.getElem?_cons_succ, List.getElem?_cons_zero, Option.some.injEq] at ho
    subst ho
    have x41 : a.tmps[41]?.getD undef = .agg #[.slice A11 n11 c11] := by rw [← ev]; exact hG.val 0 0 41 _ rfl (hdep ⟨0, .data⟩ (by simp) rfl)
    have x42 : a.tmps[42]?.getD undef = .agg #[.slice A13 n13 c13] := by rw [← ev]; exact hG.val 1 1 42 _ rfl (hdep ⟨1, .data⟩ (by simp) rfl)
    rw [if_pos (show Region.wanted _ _ = true from rfl)]
    have hSj := hG.at 0 (2, 43) rfl hLi (fun c h0 hc => absurd h0 (by decide))
    have hfin := fun v w' hs => hK v w' (hG.call 0 (2, 43) rfl hLi (fun c h0 hc => absurd h0 (by decide)) (by kernel_rfl) v w' hs)
    have HK := Lib.hid hfin
    generalize (resOf sqsy7C fun t => a.eval (.tmp t)) = R at *
    clear hG hcl hdep hfr hK hfin hLi
    have hc := Lib.hid (hc0 _ _ hSj)
    clear hSj hx hv hc0 hc1 hc2 hc3 hc4 hc5 hc6 hc7 hc8 hc9 hc10 hc11 hc12 hc13
    go_simp
    go_at_call 16
    refine hc.out.mono ?_
    rintro e w' ⟨v, rfl, hs⟩
    exact HK.out v w' hs
  | 3, ho =>
    simp only [opsSqsy7, List.getElem?_toArray, List.getElem?_cons_succ, List.getElem?_cons_zero, Option.some.injEq] at ho
    subst ho
    rw [if_pos (show Region.wanted _ _ = true from rfl)]
    obtain ⟨ph, hSp, hdone⟩ := hG.any
    have hd43 : 0 < ph := hdone 0 (2, 43) rfl (hdep ⟨2, .data⟩ (by simp) rfl)
    have r43 : a.tmps[43]?.getD undef = resOf sqsy7C (fun t => a.eval (.tmp t)) 0 := by rw [← ev]; exact (resOf_at (C := sqsy7C) (j := 0) rfl a).symm
    have hfin := hK (.bool true) w (hG.quiet 2 3 44 _ rfl (by kernel_rfl) (by kernel_rfl))
    have HK := Lib.hid hfin
    generalize (resOf sqsy7C fun t => a.eval (.tmp t)) = R at *
    rw [(hv _ _ _ hSp 0 hd43).1 (by decide)] at r43
    clear hx hv hc0 hc1 hc2 hc3 hc4 hc5 hc6 hc7 hc8 hc9 hc10 hc11 hc12 hc13 hd43
    clear hSp hdone
    clear hG hcl hdep hfr hK hfin hLi 
    go_simp
    exact HK.out
  | 4, ho =>
    simp only [opsSqsy7, List.getElem?_toArray, List.getElem?_cons_succ, List.getElem?_cons_zero, Option.some.injEq] at ho
    subst ho
    have xg : a.tmps[44]?.getD undef = .bool true := by rw [← ev]; exact hG.val 2 3 44 _ rfl (hdep ⟨3, .guard⟩ (by simp) rfl)
    have hw := wanted_of (ops := opsSqsy7) (a := a) (o := { dst := some 45, op := Op.move (Operand.tmp 12), type := 26, pos := "law.go:81", after := #[{ on := 3, ground := Ground.guard }], guard := some (3, true) }) (g := 3) (s := 44) (b := true) (b' := true) rfl rfl xg
    replace hw := hw.trans (show (true == true) = true from rfl)
    rw [if_pos hw]
    clear hw xg
    have hfin := hK (.int .i64 en) w (hG.quiet 3 4 45 _ rfl (by kernel_rfl) (by kernel_rfl))
    have HK := Lib.hid hfin
    clear hG hcl hdep hfr hK hfin hLi 
    go_simp
    exact HK.out
  | 5, ho =>
    simp only [opsSqsy7, List.getElem?_toArray, List.getElem?_cons_succ, List.getElem?_cons_zero, Option.some.injEq] at ho
    subst ho
    have xg : a.tmps[44]?.getD undef = .bool true := by rw [← ev]; exact hG.val 2 3 44 _ rfl (hdep ⟨3, .guard⟩ (by simp) rfl)
    have hw := wanted_of (ops := opsSqsy7) (a := a) (o := { dst := some 46, op := Op.move (Operand.tmp 14), type := 26, pos := "law.go:81", after := #[{ on := 3, ground := Ground.guard }], guard := some (3, true) }) (g := 3) (s := 44) (b := true) (b' := true) rfl rfl xg
    replace hw := hw.trans (show (true == true) = true from rfl)
    rw [if_pos hw]
    clear hw xg
    have hfin := hK (.int .i64 en) w (hG.quiet 4 5 46 _ rfl (by kernel_rfl) (by kernel_rfl))
    have HK := Lib.hid hfin
    clear hG hcl hdep hfr hK hfin hLi 
    go_simp
    exact HK.out
  | 6, ho =>
    simp only [opsSqsy7, List.getElem?_toArray, List.getElem?_cons_succ, List.getElem?_cons_zero, Option.some.injEq] at ho
    subst ho
    have x45 : a.tmps[45]?.getD undef = .int .i64 en := by rw [← ev]; exact hG.val 3 4 45 _ rfl (hdep ⟨4, .data⟩ (by simp) rfl)
    have x46 : a.tmps[46]?.getD undef = .int .i64 en := by rw [← ev]; exact hG.val 4 5 46 _ rfl (hdep ⟨5, .data⟩ (by simp) rfl)
    have xg : a.tmps[44]?.getD undef = .bool true := by rw [← ev]; exact hG.val 2 3 44 _ rfl (hdep ⟨3, .guard⟩ (by simp) rfl)
    have hw := wanted_of (ops := opsSqsy7) (a := a) (o := { dst := some 47, op := Op.binOp BinOp.eql 26 (Operand.tmp 45) (Operand.tmp 46) 26, type := 4, pos := "law.go:81", after := #[{ on := 4, ground := Ground.data }, { on := 5, ground := Ground.data }, { on := 3, ground := Ground.guard }], guard := some (3, true) }) (g := 3) (s := 44) (b := true) (b' := true) rfl rfl xg
    replace hw := hw.trans (show (true == true) = true from rfl)
    rw [if_pos hw]
    clear hw xg
    have hfin := hK (.bool true) w (hG.quiet 5 6 47 _ rfl (by kernel_rfl) (by kernel_rfl))
    have HK := Lib.hid hfin
    clear hG hcl hdep hfr hK hfin hLi 
    go_simp
    exact HK.out
  | 7, ho =>
    simp only [opsSqsy7, List.getElem?_toArray, List.getElem?_cons_succ, List.getElem?_cons_zero, Option.some.injEq] at ho
    subst ho
    have x44 : a.tmps[44]?.getD undef = .bool true := by rw [← ev]; exact hG.val 2 3 44 _ rfl (hdep ⟨3, .data⟩ (by simp) rfl)
    have x47 : a.tmps[47]?.getD undef = .bool true := by rw [← ev]; exact hG.val 5 6 47 _ rfl (hdep ⟨6, .data⟩ (by simp) rfl)
    rw [if_pos (show Region.wanted _ _ = true from rfl)]
    have hfin := hK (.bool true) w (hG.quiet 6 7 48 _ rfl (by kernel_rfl) (by kernel_rfl))
    have HK := Lib.hid hfin
    clear hG hcl hdep hfr hK hfin hLi 
    go_simp
    exact HK.out
  | 8, ho =>
    simp only [opsSqsy7, List.getElem?_toArray, List.getElem?_cons_succ, List.getElem?_cons_zero, Option.some.injEq] at ho
    subst ho
    have x48 : a.tmps[48]?.getD undef = .bool true := by rw [← ev]; exact hG.val 6 7 48 _ rfl (hdep ⟨7, .data⟩ (by simp) rfl)
    rw [if_pos (show Region.wanted _ _ = true from rfl)]
    have hfin := hK (.bool true) w (hG.quiet 7 8 49 _ rfl (by kernel_rfl) (by kernel_rfl))
    have HK := Lib.hid hfin
    clear hG hcl hdep hfr hK hfin hLi 
    go_simp
    exact HK.out
  | 9, ho =>
    simp only [opsSqsy7, List.getElem?_toArray, List.getElem?_cons_succ, List.getElem?_cons_zero, Option.some.injEq] at ho
    subst ho
    have xg : a.tmps[49]?.getD undef = .bool true := by rw [← ev]; exact hG.val 7 8 49 _ rfl (hdep ⟨8, .guard⟩ (by simp) rfl)
    have hw := wanted_of (ops := opsSqsy7) (a := a) (o := { dst := some 50, op := Op.load 25 (Operand.tmp 6), type := 25, pos := "law.go:81", after := #[{ on := 8, ground := Ground.guard }], guard := some (8, true) }) (g := 8) (s := 49) (b := true) (b' := true) rfl rfl xg
    replace hw := hw.trans (show (true == true) = true from rfl)
    rw [if_pos hw]
    clear hw xg
    obtain ⟨ph, hSp, hdone⟩ := hG.any
    have hfin := hK (.agg #[.slice A6 n6 c6]) w (hG.quiet 8 9 50 _ rfl (by kernel_rfl) (by kernel_rfl))
    have HK := Lib.hid hfin
    generalize (resOf sqsy7C fun t => a.eval (.tmp t)) = R at *
    obtain ⟨q1, q2, q3⟩ := hx _ _ _ hSp
    clear hx hv hc0 hc1 hc2 hc3 hc4 hc5 hc6 hc7 hc8 hc9 hc10 hc11 hc12 hc13 q2 q3
    clear hSp hdone
    clear hG hcl hdep hfr hK hfin hLi 
    go_simp
    exact HK.out
  | 10, ho =>
    simp only [opsSqsy7, List.getElem?_toArray, List.getElem?_cons_succ, List.getElem?_cons_zero, Option.some.injEq] at ho
    subst ho
    have x50 : a.tmps[50]?.getD undef = .agg #[.slice A6 n6 c6] := by rw [← ev]; exact hG.val 8 9 50 _ rfl (hdep ⟨9, .data⟩ (by simp) rfl)
    have xg : a.tmps[49]?.getD undef = .bool true := by rw [← ev]; exact hG.val 7 8 49 _ rfl (hdep ⟨8, .chain⟩ (by simp) rfl)
    have hw := wanted_of (ops := opsSqsy7) (a := a) (o := { dst := some 51, op := Op.call { callee := Callee.value (Operand.func 11), args := #[Operand.tmp 50], argTypes := #[25] }, type := 9, pos := "law.go:81", after := #[{ on := 9, ground := Ground.data }, { on := 8, ground := Ground.chain }, { on := 8, ground := Ground.guard }], guard := some (8, true) }) (g := 8) (s := 49) (b := true) (b' := true) rfl rfl xg
    replace hw := hw.trans (show (true == true) = true from rfl)
    rw [if_pos hw]
    clear hw xg
    have hSj := hG.at 1 (10, 51) rfl hLi (fun c h0 hc => by simp [sqsy7C] at hc; subst hc; exact hcl 3 _ rfl (hcl 8 _ rfl (hdep ⟨8, .chain⟩ (by simp) rfl) ⟨3, .chain⟩ (by simp [opsSqsy7]) rfl) ⟨2, .data⟩ (by simp [opsSqsy7]) rfl)
    have hfin := fun v w' hs => hK v w' (hG.call 1 (10, 51) rfl hLi (fun c h0 hc => by simp [sqsy7C] at hc; subst hc; exact hcl 3 _ rfl (hcl 8 _ rfl (hdep ⟨8, .chain⟩ (by simp) rfl) ⟨3, .chain⟩ (by simp [opsSqsy7]) rfl) ⟨2, .data⟩ (by simp [opsSqsy7]) rfl) (by kernel_rfl) v w' hs)
    have HK := Lib.hid hfin
    generalize (resOf sqsy7C fun t => a.eval (.tmp t)) = R at *
    clear hG hcl hdep hfr hK hfin hLi
    have hc := Lib.hid (hc1 _ _ hSj)
    clear hSj hx hv hc0 hc1 hc2 hc3 hc4 hc5 hc6 hc7 hc8 hc9 hc10 hc11 hc12 hc13
    go_simp
    go_at_call 11
    refine hc.out.mono ?_
    rintro e w' ⟨v, rfl, hs⟩
    exact HK.out v w' hs
  | 11, ho =>
    simp only [opsSqsy7, List.getElem?_toArray, List.getElem?_cons_succ, List.getElem?_cons_zero, Option.some.injEq] at ho
    subst ho
    have xg : a.tmps[49]?.getD undef = .bool true := by rw [← ev]; exact hG.val 7 8 49 _ rfl (hdep ⟨8, .guard⟩ (by simp) rfl)
    have hw := wanted_of (ops := opsSqsy7) (a := a) (o := { dst := some 52, op := Op.load 25 (Operand.tmp 6), type := 25, pos := "law.go:81", after := #[{ on := 8, ground := Ground.guard }], guard := some (8, true) }) (g := 8) (s := 49) (b := true) (b' := true) rfl rfl xg
    replace hw := hw.trans (show (true == true) = true from rfl)
    rw [if_pos hw]
    clear hw xg
    obtain ⟨ph, hSp, hdone⟩ := hG.any
    have hfin := hK (.agg #[.slice A6 n6 c6]) w (hG.quiet 9 11 52 _ rfl (by kernel_rfl) (by kernel_rfl))
    have HK := Lib.hid hfin
    generalize (resOf sqsy7C fun t => a.eval (.tmp t)) = R at *
    obtain ⟨q1, q2, q3⟩ := hx _ _ _ hSp
    clear hx hv hc0 hc1 hc2 hc3 hc4 hc5 hc6 hc7 hc8 hc9 hc10 hc11 hc12 hc13 q2 q3
    clear hSp hdone
    clear hG hcl hdep hfr hK hfin hLi 
    go_simp
    exact HK.out
  | 12, ho =>
    simp only [opsSqsy7, List.getElem?_toArray, List.getElem?_cons_succ, List.getElem?_cons_zero, Option.some.injEq] at ho
    subst ho
    have x52 : a.tmps[52]?.getD undef = .agg #[.slice A6 n6 c6] := by rw [← ev]; exact hG.val 9 11 52 _ rfl (hdep ⟨11, .data⟩ (by simp) rfl)
    have xg : a.tmps[49]?.getD undef = .bool true := by rw [← ev]; exact hG.val 7 8 49 _ rfl (hdep ⟨8, .guard⟩ (by simp) rfl)
    have hw := wanted_of (ops := opsSqsy7) (a := a) (o := { dst := some 53, op := Op.call { callee := Callee.value (Operand.func 18), args := #[Operand.tmp 52], argTypes := #[25] }, type := 37, pos := "law.go:81", after := #[{ on := 11, ground := Ground.data }, { on := 10, ground := Ground.chain }, { on := 8, ground := Ground.guard }], guard := some (8, true) }) (g := 8) (s := 49) (b := true) (b' := true) rfl rfl xg
    replace hw := hw.trans (show (true == true) = true from rfl)
    rw [if_pos hw]
    clear hw xg
    have hSj := hG.at 2 (12, 53) rfl hLi (fun c h0 hc => by simp [sqsy7C] at hc; subst hc; exact hdep ⟨10, .chain⟩ (by simp) rfl)
    have hfin := fun v w' hs => hK v w' (hG.call 2 (12, 53) rfl hLi (fun c h0 hc => by simp [sqsy7C] at hc; subst hc; exact hdep ⟨10, .chain⟩ (by simp) rfl) (by kernel_rfl) v w' hs)
    have HK := Lib.hid hfin
    generalize (resOf sqsy7C fun t => a.eval (.tmp t)) = R at *
    clear hG hcl hdep hfr hK hfin hLi
    have hc := Lib.hid (hc2 _ _ hSj)
    clear hSj hx hv hc0 hc1 hc2 hc3 hc4 hc5 hc6 hc7 hc8 hc9 hc10 hc11 hc12 hc13
    go_simp
    go_at_call 18
    refine hc.out.mono ?_
    rintro e w' ⟨v, rfl, hs⟩
    exact HK.out v w' hs
  | 13, ho =>
    simp only [opsSqsy7, List.getElem?_toArray, List.getElem?_cons_succ, List.getElem?_cons_zero, Option.some.injEq] at ho
    subst ho
    have xg : a.tmps[49]?.getD undef = .bool true := by rw [← ev]; exact hG.val 7 8 49 _ rfl (hdep ⟨8, .guard⟩ (by simp) rfl)
    have hw := wanted_of (ops := opsSqsy7) (a := a) (o := { dst := some 54, op := Op.call { callee := Callee.value (Operand.func 17), args := #[Operand.tmp 53], argTypes := #[37] }, type := 9, pos := "law.go:81", after := #[{ on := 12, ground := Ground.data }, { on := 12, ground := Ground.chain }, { on := 8, ground := Ground.guard }], guard := some (8, true) }) (g := 8) (s := 49) (b := true) (b' := true) rfl rfl xg
    replace hw := hw.trans (show (true == true) = true from rfl)
    rw [if_pos hw]
    clear hw xg
    have hSj := hG.at 3 (13, 54) rfl hLi (fun c h0 hc => by simp [sqsy7C] at hc; subst hc; exact hdep ⟨12, .data⟩ (by simp) rfl)
    have r53 : a.tmps[53]?.getD undef = resOf sqsy7C (fun t => a.eval (.tmp t)) 2 := by rw [← ev]; exact (resOf_at (C := sqsy7C) (j := 2) rfl a).symm
    have hfin := fun v w' hs => hK v w' (hG.call 3 (13, 54) rfl hLi (fun c h0 hc => by simp [sqsy7C] at hc; subst hc; exact hdep ⟨12, .data⟩ (by simp) rfl) (by kernel_rfl) v w' hs)
    have HK := Lib.hid hfin
    generalize (resOf sqsy7C fun t => a.eval (.tmp t)) = R at *
    clear hG hcl hdep hfr hK hfin hLi
    have hc := Lib.hid (hc3 _ _ hSj)
    clear hSj hx hv hc0 hc1 hc2 hc3 hc4 hc5 hc6 hc7 hc8 hc9 hc10 hc11 hc12 hc13
    go_simp
    go_at_call 17
    refine hc.out.mono ?_
    rintro e w' ⟨v, rfl, hs⟩
    exact HK.out v w' hs
  | 14, ho =>
    simp only [opsSqsy7, List.getElem?_toArray, List.getElem?_cons_succ, List.getElem?_cons_zero, Option.some.injEq] at ho
    subst ho
    have xg : a.tmps[49]?.getD undef = .bool true := by rw [← ev]; exact hG.val 7 8 49 _ rfl (hdep ⟨8, .guard⟩ (by simp) rfl)
    have hw := wanted_of (ops := opsSqsy7) (a := a) (o := { dst := some 55, op := Op.binOp BinOp.eql 9 (Operand.tmp 51) (Operand.tmp 54) 9, type := 4, pos := "law.go:81", after := #[{ on := 10, ground := Ground.data }, { on := 13, ground := Ground.data }, { on := 8, ground := Ground.guard }], guard := some (8, true) }) (g := 8) (s := 49) (b := true) (b' := true) rfl rfl xg
    replace hw := hw.trans (show (true == true) = true from rfl)
    rw [if_pos hw]
    clear hw xg
    obtain ⟨ph, hSp, hdone⟩ := hG.any
    have hd51 : 1 < ph := hdone 1 (10, 51) rfl (hdep ⟨10, .data⟩ (by simp) rfl)
    have r51 : a.tmps[51]?.getD undef = resOf sqsy7C (fun t => a.eval (.tmp t)) 1 := by rw [← ev]; exact (resOf_at (C := sqsy7C) (j := 1) rfl a).symm
    have hd54 : 3 < ph := hdone 3 (13, 54) rfl (hdep ⟨13, .data⟩ (by simp) rfl)
    have r54 : a.tmps[54]?.getD undef = resOf sqsy7C (fun t => a.eval (.tmp t)) 3 := by rw [← ev]; exact (resOf_at (C := sqsy7C) (j := 3) rfl a).symm
    have hfin := hK (.bool true) w (hG.quiet 10 14 55 _ rfl (by kernel_rfl) (by kernel_rfl))
    have HK := Lib.hid hfin
    generalize (resOf sqsy7C fun t => a.eval (.tmp t)) = R at *
    rw [(hv _ _ _ hSp 1 hd51).2.1 (by decide)] at r51
    rw [(hv _ _ _ hSp 3 hd54).2.1 (by decide)] at r54
    clear hx hv hc0 hc1 hc2 hc3 hc4 hc5 hc6 hc7 hc8 hc9 hc10 hc11 hc12 hc13 hd51 hd54
    clear hSp hdone
    clear hG hcl hdep hfr hK hfin hLi 
    go_simp
    exact HK.out
  | 15, ho =>
    simp only [opsSqsy7, List.getElem?_toArray, List.getElem?_cons_succ, List.getElem?_cons_zero, Option.some.injEq] at ho
    subst ho
    have x49 : a.tmps[49]?.getD undef = .bool true := by rw [← ev]; exact hG.val 7 8 49 _ rfl (hdep ⟨8, .data⟩ (by simp) rfl)
    have x55 : a.tmps[55]?.getD undef = .bool true := by rw [← ev]; exact hG.val 10 14 55 _ rfl (hdep ⟨14, .data⟩ (by simp) rfl)
    rw [if_pos (show Region.wanted _ _ = true from rfl)]
    have hfin := hK (.bool true) w (hG.quiet 11 15 56 _ rfl (by kernel_rfl) (by kernel_rfl))
    have HK := Lib.hid hfin
    clear hG hcl hdep hfr hK hfin hLi 
    go_simp
    exact HK.out
  | 16, ho =>
    simp only [opsSqsy7, List.getElem?_toArray, List.getElem?_cons_succ, List.getElem?_cons_zero, Option.some.injEq] at ho
    subst ho
    have x56 : a.tmps[56]?.getD undef = .bool true := by rw [← ev]; exact hG.val 11 15 56 _ rfl (hdep ⟨15, .data⟩ (by simp) rfl)
    rw [if_pos (show Region.wanted _ _ = true from rfl)]
    have hfin := hK (.bool true) w (hG.quiet 12 16 57 _ rfl (by kernel_rfl) (by kernel_rfl))
    have HK := Lib.hid hfin
    clear hG hcl hdep hfr hK hfin hLi 
    go_simp
    exact HK.out
  | 17, ho =>
    simp only [opsSqsy7, List.getElem?_toArray, List.getElem?_cons_succ, List.getElem?_cons_zero, Option.some.injEq] at ho
    subst ho
    have xg : a.tmps[57]?.getD undef = .bool true := by rw [← ev]; exact hG.val 12 16 57 _ rfl (hdep ⟨16, .guard⟩ (by simp) rfl)
    have hw := wanted_of (ops := opsSqsy7) (a := a) (o := { dst := some 58, op := Op.load 25 (Operand.tmp 6), type := 25, pos := "law.go:81", after := #[{ on := 16, ground := Ground.guard }], guard := some (16, true) }) (g := 16) (s := 57) (b := true) (b' := true) rfl rfl xg
    replace hw := hw.trans (show (true == true) = true from rfl)
    rw [if_pos hw]
    clear hw xg
    obtain ⟨ph, hSp, hdone⟩ := hG.any
    have hfin := hK (.agg #[.slice A6 n6 c6]) w (hG.quiet 13 17 58 _ rfl (by kernel_rfl) (by kernel_rfl))
    have HK := Lib.hid hfin
    generalize (resOf sqsy7C fun t => a.eval (.tmp t)) = R at *
    obtain ⟨q1, q2, q3⟩ := hx _ _ _ hSp
    clear hx hv hc0 hc1 hc2 hc3 hc4 hc5 hc6 hc7 hc8 hc9 hc10 hc11 hc12 hc13 q2 q3
    clear hSp hdone
    clear hG hcl hdep hfr hK hfin hLi 
    go_simp
    exact HK.out
  | 18, ho =>
    simp only [opsSqsy7, List.getElem?_toArray, List.getElem?_cons_succ, List.getElem?_cons_zero, Option.some.injEq] at ho
    subst ho
    have xg : a.tmps[57]?.getD undef = .bool true := by rw [← ev]; exact hG.val 12 16 57 _ rfl (hdep ⟨16, .guard⟩ (by simp) rfl)
    have hw := wanted_of (ops := opsSqsy7) (a := a) (o := { dst := some 59, op := Op.move (Operand.tmp 2), type := 2, pos := "law.go:81", after := #[{ on := 16, ground := Ground.guard }], guard := some (16, true) }) (g := 16) (s := 57) (b := true) (b' := true) rfl rfl xg
    replace hw := hw.trans (show (true == true) = true from rfl)
    rw [if_pos hw]
    clear hw xg
    have hfin := hK (.int .i64 x) w (hG.quiet 14 18 59 _ rfl (by kernel_rfl) (by kernel_rfl))
    have HK := Lib.hid hfin
    clear hG hcl hdep hfr hK hfin hLi 
    go_simp
    exact HK.out
  | 19, ho =>
    simp only [opsSqsy7, List.getElem?_toArray, List.getElem?_cons_succ, List.getElem?_cons_zero, Option.some.injEq] at ho
    subst ho
    have xg : a.tmps[57]?.getD undef = .bool true := by rw [← ev]; exact hG.val 12 16 57 _ rfl (hdep ⟨16, .guard⟩ (by simp) rfl)
    have hw := wanted_of (ops := opsSqsy7) (a := a) (o := { dst := some 60, op := Op.move (Operand.tmp 3), type := 2, pos := "law.go:81", after := #[{ on := 16, ground := Ground.guard }], guard := some (16, true) }) (g := 16) (s := 57) (b := true) (b' := true) rfl rfl xg
    replace hw := hw.trans (show (true == true) = true from rfl)
    rw [if_pos hw]
    clear hw xg
    have hfin := hK (.int .i64 y) w (hG.quiet 15 19 60 _ rfl (by kernel_rfl) (by kernel_rfl))
    have HK := Lib.hid hfin
    clear hG hcl hdep hfr hK hfin hLi 
    go_simp
    exact HK.out
  | 20, ho =>
    simp only [opsSqsy7, List.getElem?_toArray, List.getElem?_cons_succ, List.getElem?_cons_zero, Option.some.injEq] at ho
    subst ho
    have x58 : a.tmps[58]?.getD undef = .agg #[.slice A6 n6 c6] := by rw [← ev]; exact hG.val 13 17 58 _ rfl (hdep ⟨17, .data⟩ (by simp) rfl)
    have x59 : a.tmps[59]?.getD undef = .int .i64 x := by rw [← ev]; exact hG.val 14 18 59 _ rfl (hdep ⟨18, .data⟩ (by simp) rfl)
    have x60 : a.tmps[60]?.getD undef = .int .i64 y := by rw [← ev]; exact hG.val 15 19 60 _ rfl (hdep ⟨19, .data⟩ (by simp) rfl)
    have xg : a.tmps[57]?.getD undef = .bool true := by rw [← ev]; exact hG.val 12 16 57 _ rfl (hdep ⟨16, .chain⟩ (by simp) rfl)
    have hw := wanted_of (ops := opsSqsy7) (a := a) (o := { dst := some 61, op := Op.call { callee := Callee.value (Operand.func 12), args := #[Operand.tmp 58, Operand.tmp 59, Operand.tmp 60], argTypes := #[25, 2, 2] }, type := 4, pos := "law.go:81", after := #[{ on := 17, ground := Ground.data }, { on := 18, ground := Ground.data }, { on := 19, ground := Ground.data }, { on := 16, ground := Ground.chain }, { on := 16, ground := Ground.guard }], guard := some (16, true) }) (g := 16) (s := 57) (b := true) (b' := true) rfl rfl xg
    replace hw := hw.trans (show (true == true) = true from rfl)
    rw [if_pos hw]
    clear hw xg
    have hSj := hG.at 4 (20, 61) rfl hLi (fun c h0 hc => by simp [sqsy7C] at hc; subst hc; exact hcl 16 _ rfl (hdep ⟨16, .chain⟩ (by simp) rfl) ⟨13, .chain⟩ (by simp [opsSqsy7]) rfl)
    have hfin := fun v w' hs => hK v w' (hG.call 4 (20, 61) rfl hLi (fun c h0 hc => by simp [sqsy7C] at hc; subst hc; exact hcl 16 _ rfl (hdep ⟨16, .chain⟩ (by simp) rfl) ⟨13, .chain⟩ (by simp [opsSqsy7]) rfl) (by kernel_rfl) v w' hs)
    have HK := Lib.hid hfin
    generalize (resOf sqsy7C fun t => a.eval (.tmp t)) = R at *
    clear hG hcl hdep hfr hK hfin hLi
    have hc := Lib.hid (hc4 _ _ hSj)
    clear hSj hx hv hc0 hc1 hc2 hc3 hc4 hc5 hc6 hc7 hc8 hc9 hc10 hc11 hc12 hc13
    go_simp
    go_at_call 12
    refine hc.out.mono ?_
    rintro e w' ⟨v, rfl, hs⟩
    exact HK.out v w' hs
  | 21, ho =>
    simp only [opsSqsy7, List.getElem?_toArray, List.getElem?_cons_succ, List.getElem?_cons_zero, Option.some.injEq] at ho
    subst ho
    have xg : a.tmps[57]?.getD undef = .bool true := by rw [← ev]; exact hG.val 12 16 57 _ rfl (hdep ⟨16, .guard⟩ (by simp) rfl)
    have hw := wanted_of (ops := opsSqsy7) (a := a) (o := { dst := some 62, op := Op.load 25 (Operand.tmp 6), type := 25, pos := "law.go:81", after := #[{ on := 16, ground := Ground.guard }], guard := some (16, true) }) (g := 16) (s := 57) (b := true) (b' := true) rfl rfl xg
    replace hw := hw.trans (show (true == true) = true from rfl)
    rw [if_pos hw]
    clear hw xg
    obtain ⟨ph, hSp, hdone⟩ := hG.any
    have hfin := hK (.agg #[.slice A6 n6 c6]) w (hG.quiet 16 21 62 _ rfl (by kernel_rfl) (by kernel_rfl))
    have HK := Lib.hid hfin
    generalize (resOf sqsy7C fun t => a.eval (.tmp t)) = R at *
    obtain ⟨q1, q2, q3⟩ := hx _ _ _ hSp
    clear hx hv hc0 hc1 hc2 hc3 hc4 hc5 hc6 hc7 hc8 hc9 hc10 hc11 hc12 hc13 q2 q3
    clear hSp hdone
    clear hG hcl hdep hfr hK hfin hLi 
    go_simp
    exact HK.out
  | 22, ho =>
    simp only [opsSqsy7, List.getElem?_toArray, List.getElem?_cons_succ, List.getElem?_cons_zero, Option.some.injEq] at ho
    subst ho
    have x62 : a.tmps[62]?.getD undef = .agg #[.slice A6 n6 c6] := by rw [← ev]; exact hG.val 16 21 62 _ rfl (hdep ⟨21, .data⟩ (by simp) rfl)
    have xg : a.tmps[57]?.getD undef = .bool true := by rw [← ev]; exact hG.val 12 16 57 _ rfl (hdep ⟨16, .guard⟩ (by simp) rfl)
    have hw := wanted_of (ops := opsSqsy7) (a := a) (o := { dst := some 63, op := Op.call { callee := Callee.value (Operand.func 18), args := #[Operand.tmp 62], argTypes := #[25] }, type := 37, pos := "law.go:81", after := #[{ on := 21, ground := Ground.data }, { on := 20, ground := Ground.chain }, { on := 16, ground := Ground.guard }], guard := some (16, true) }) (g := 16) (s := 57) (b := true) (b' := true) rfl rfl xg
    replace hw := hw.trans (show (true == true) = true from rfl)
    rw [if_pos hw]
    clear hw xg
    have hSj := hG.at 5 (22, 63) rfl hLi (fun c h0 hc => by simp [sqsy7C] at hc; subst hc; exact hdep ⟨20, .chain⟩ (by simp) rfl)
    have hfin := fun v w' hs => hK v w' (hG.call 5 (22, 63) rfl hLi (fun c h0 hc => by simp [sqsy7C] at hc; subst hc; exact hdep ⟨20, .chain⟩ (by simp) rfl) (by kernel_rfl) v w' hs)
    have HK := Lib.hid hfin
    generalize (resOf sqsy7C fun t => a.eval (.tmp t)) = R at *
    clear hG hcl hdep hfr hK hfin hLi
    have hc := Lib.hid (hc5 _ _ hSj)
    clear hSj hx hv hc0 hc1 hc2 hc3 hc4 hc5 hc6 hc7 hc8 hc9 hc10 hc11 hc12 hc13
    go_simp
    go_at_call 18
    refine hc.out.mono ?_
    rintro e w' ⟨v, rfl, hs⟩
    exact HK.out v w' hs
  | 23, ho =>
    simp only [opsSqsy7, List.getElem?_toArray, List.getElem?_cons_succ, List.getElem?_cons_zero, Option.some.injEq] at ho
    subst ho
    have xg : a.tmps[57]?.getD undef = .bool true := by rw [← ev]; exact hG.val 12 16 57 _ rfl (hdep ⟨16, .guard⟩ (by simp) rfl)
    have hw := wanted_of (ops := opsSqsy7) (a := a) (o := { dst := some 64, op := Op.move (Operand.tmp 2), type := 2, pos := "law.go:81", after := #[{ on := 16, ground := Ground.guard }], guard := some (16, true) }) (g := 16) (s := 57) (b := true) (b' := true) rfl rfl xg
    replace hw := hw.trans (show (true == true) = true from rfl)
    rw [if_pos hw]
    clear hw xg
    have hfin := hK (.int .i64 x) w (hG.quiet 17 23 64 _ rfl (by kernel_rfl) (by kernel_rfl))
    have HK := Lib.hid hfin
    clear hG hcl hdep hfr hK hfin hLi 
    go_simp
    exact HK.out
  | 24, ho =>
    simp only [opsSqsy7, List.getElem?_toArray, List.getElem?_cons_succ, List.getElem?_cons_zero, Option.some.injEq] at ho
    subst ho
    have xg : a.tmps[57]?.getD undef = .bool true := by rw [← ev]; exact hG.val 12 16 57 _ rfl (hdep ⟨16, .guard⟩ (by simp) rfl)
    have hw := wanted_of (ops := opsSqsy7) (a := a) (o := { dst := some 65, op := Op.move (Operand.tmp 3), type := 2, pos := "law.go:81", after := #[{ on := 16, ground := Ground.guard }], guard := some (16, true) }) (g := 16) (s := 57) (b := true) (b' := true) rfl rfl xg
    replace hw := hw.trans (show (true == true) = true from rfl)
    rw [if_pos hw]
    clear hw xg
    have hfin := hK (.int .i64 y) w (hG.quiet 18 24 65 _ rfl (by kernel_rfl) (by kernel_rfl))
    have HK := Lib.hid hfin
    clear hG hcl hdep hfr hK hfin hLi 
    go_simp
    exact HK.out
  | 25, ho =>
    simp only [opsSqsy7, List.getElem?_toArray, List.getElem?_cons_succ, List.getElem?_cons_zero, Option.some.injEq] at ho
    subst ho
    have x64 : a.tmps[64]?.getD undef = .int .i64 x := by rw [← ev]; exact hG.val 17 23 64 _ rfl (hdep ⟨23, .data⟩ (by simp) rfl)
    have x65 : a.tmps[65]?.getD undef = .int .i64 y := by rw [← ev]; exact hG.val 18 24 65 _ rfl (hdep ⟨24, .data⟩ (by simp) rfl)
    have xg : a.tmps[57]?.getD undef = .bool true := by rw [← ev]; exact hG.val 12 16 57 _ rfl (hdep ⟨16, .guard⟩ (by simp) rfl)
    have hw := wanted_of (ops := opsSqsy7) (a := a) (o := { dst := some 66, op := Op.call { callee := Callee.value (Operand.func 19), args := #[Operand.tmp 63, Operand.tmp 64, Operand.tmp 65], argTypes := #[37, 2, 2] }, type := 4, pos := "law.go:81", after := #[{ on := 22, ground := Ground.data }, { on := 23, ground := Ground.data }, { on := 24, ground := Ground.data }, { on := 22, ground := Ground.chain }, { on := 16, ground := Ground.guard }], guard := some (16, true) }) (g := 16) (s := 57) (b := true) (b' := true) rfl rfl xg
    replace hw := hw.trans (show (true == true) = true from rfl)
    rw [if_pos hw]
    clear hw xg
    have hSj := hG.at 6 (25, 66) rfl hLi (fun c h0 hc => by simp [sqsy7C] at hc; subst hc; exact hdep ⟨22, .data⟩ (by simp) rfl)
    have r63 : a.tmps[63]?.getD undef = resOf sqsy7C (fun t => a.eval (.tmp t)) 5 := by rw [← ev]; exact (resOf_at (C := sqsy7C) (j := 5) rfl a).symm
    have hfin := fun v w' hs => hK v w' (hG.call 6 (25, 66) rfl hLi (fun c h0 hc => by simp [sqsy7C] at hc; subst hc; exact hdep ⟨22, .data⟩ (by simp) rfl) (by kernel_rfl) v w' hs)
    have HK := Lib.hid hfin
    generalize (resOf sqsy7C fun t => a.eval (.tmp t)) = R at *
    clear hG hcl hdep hfr hK hfin hLi
    have hc := Lib.hid (hc6 _ _ hSj)
    clear hSj hx hv hc0 hc1 hc2 hc3 hc4 hc5 hc6 hc7 hc8 hc9 hc10 hc11 hc12 hc13
    go_simp
    go_at_call 19
    refine hc.out.mono ?_
    rintro e w' ⟨v, rfl, hs⟩
    exact HK.out v w' hs
  | 26, ho =>
    simp only [opsSqsy7, List.getElem?_toArray, List.getElem?_cons_succ, List.getElem?_cons_zero, Option.some.injEq] at ho
    subst ho
    have xg : a.tmps[57]?.getD undef = .bool true := by rw [← ev]; exact hG.val 12 16 57 _ rfl (hdep ⟨16, .guard⟩ (by simp) rfl)
    have hw := wanted_of (ops := opsSqsy7) (a := a) (o := { dst := some 67, op := Op.binOp BinOp.eql 4 (Operand.tmp 61) (Operand.tmp 66) 4, type := 4, pos := "law.go:81", after := #[{ on := 20, ground := Ground.data }, { on := 25, ground := Ground.data }, { on := 16, ground := Ground.guard }], guard := some (16, true) }) (g := 16) (s := 57) (b := true) (b' := true) rfl rfl xg
    replace hw := hw.trans (show (true == true) = true from rfl)
    rw [if_pos hw]
    clear hw xg
    obtain ⟨ph, hSp, hdone⟩ := hG.any
    have hd61 : 4 < ph := hdone 4 (20, 61) rfl (hdep ⟨20, .data⟩ (by simp) rfl)
    have r61 : a.tmps[61]?.getD undef = resOf sqsy7C (fun t => a.eval (.tmp t)) 4 := by rw [← ev]; exact (resOf_at (C := sqsy7C) (j := 4) rfl a).symm
    have hd66 : 6 < ph := hdone 6 (25, 66) rfl (hdep ⟨25, .data⟩ (by simp) rfl)
    have r66 : a.tmps[66]?.getD undef = resOf sqsy7C (fun t => a.eval (.tmp t)) 6 := by rw [← ev]; exact (resOf_at (C := sqsy7C) (j := 6) rfl a).symm
    have hfin := hK (.bool true) w (hG.quiet 19 26 67 _ rfl (by kernel_rfl) (by kernel_rfl))
    have HK := Lib.hid hfin
    generalize (resOf sqsy7C fun t => a.eval (.tmp t)) = R at *
    rw [(hv _ _ _ hSp 4 hd61).2.2 (by decide)] at r61
    rw [(hv _ _ _ hSp 6 hd66).2.2 (by decide)] at r66
    clear hx hv hc0 hc1 hc2 hc3 hc4 hc5 hc6 hc7 hc8 hc9 hc10 hc11 hc12 hc13 hd61 hd66
    clear hSp hdone
    clear hG hcl hdep hfr hK hfin hLi 
    go_simp
    exact HK.out
  | 27, ho =>
    simp only [opsSqsy7, List.getElem?_toArray, List.getElem?_cons_succ, List.getElem?_cons_zero, Option.some.injEq] at ho
    subst ho
    have x57 : a.tmps[57]?.getD undef = .bool true := by rw [← ev]; exact hG.val 12 16 57 _ rfl (hdep ⟨16, .data⟩ (by simp) rfl)
    have x67 : a.tmps[67]?.getD undef = .bool true := by rw [← ev]; exact hG.val 19 26 67 _ rfl (hdep ⟨26, .data⟩ (by simp) rfl)
    rw [if_pos (show Region.wanted _ _ = true from rfl)]
    have hfin := hK (.bool true) w (hG.quiet 20 27 68 _ rfl (by kernel_rfl) (by kernel_rfl))
    have HK := Lib.hid hfin
    clear hG hcl hdep hfr hK hfin hLi 
    go_simp
    exact HK.out
  | 28, ho =>
    simp only [opsSqsy7, List.getElem?_toArray, List.getElem?_cons_succ, List.getElem?_cons_zero, Option.some.injEq] at ho
    subst ho
    have x68 : a.tmps[68]?.getD undef = .bool true := by rw [← ev]; exact hG.val 20 27 68 _ rfl (hdep ⟨27, .data⟩ (by simp) rfl)
    rw [if_pos (show Region.wanted _ _ = true from rfl)]
    have hfin := hK (.bool true) w (hG.quiet 21 28 69 _ rfl (by kernel_rfl) (by kernel_rfl))
    have HK := Lib.hid hfin
    clear hG hcl hdep hfr hK hfin hLi 
    go_simp
    exact HK.out
  | 29, ho =>
    simp only [opsSqsy7, List.getElem?_toArray, List.getElem?_cons_succ, List.getElem?_cons_zero, Option.some.injEq] at ho
    subst ho
    have xg : a.tmps[69]?.getD undef = .bool true := by rw [← ev]; exact hG.val 21 28 69 _ rfl (hdep ⟨28, .guard⟩ (by simp) rfl)
    have hw := wanted_of (ops := opsSqsy7) (a := a) (o := { dst := some 70, op := Op.load 25 (Operand.tmp 6), type := 25, pos := "law.go:81", after := #[{ on := 28, ground := Ground.guard }], guard := some (28, true) }) (g := 28) (s := 69) (b := true) (b' := true) rfl rfl xg
    replace hw := hw.trans (show (true == true) = true from rfl)
    rw [if_pos hw]
    clear hw xg
    obtain ⟨ph, hSp, hdone⟩ := hG.any
    have hfin := hK (.agg #[.slice A6 n6 c6]) w (hG.quiet 22 29 70 _ rfl (by kernel_rfl) (by kernel_rfl))
    have HK := Lib.hid hfin
    generalize (resOf sqsy7C fun t => a.eval (.tmp t)) = R at *
    obtain ⟨q1, q2, q3⟩ := hx _ _ _ hSp
    clear hx hv hc0 hc1 hc2 hc3 hc4 hc5 hc6 hc7 hc8 hc9 hc10 hc11 hc12 hc13 q2 q3
    clear hSp hdone
    clear hG hcl hdep hfr hK hfin hLi 
    go_simp
    exact HK.out
  | 30, ho =>
    simp only [opsSqsy7, List.getElem?_toArray, List.getElem?_cons_succ, List.getElem?_cons_zero, Option.some.injEq] at ho
    subst ho
    have xg : a.tmps[69]?.getD undef = .bool true := by rw [← ev]; exact hG.val 21 28 69 _ rfl (hdep ⟨28, .guard⟩ (by simp) rfl)
    have hw := wanted_of (ops := opsSqsy7) (a := a) (o := { dst := some 71, op := Op.move (Operand.tmp 4), type := 30, pos := "law.go:81", after := #[{ on := 28, ground := Ground.guard }], guard := some (28, true) }) (g := 28) (s := 69) (b := true) (b' := true) rfl rfl xg
    replace hw := hw.trans (show (true == true) = true from rfl)
    rw [if_pos hw]
    clear hw xg
    have hfin := hK (.slice A4 n4 c4) w (hG.quiet 23 30 71 _ rfl (by kernel_rfl) (by kernel_rfl))
    have HK := Lib.hid hfin
    clear hG hcl hdep hfr hK hfin hLi 
    go_simp
    exact HK.out
  | 31, ho =>
    simp only [opsSqsy7, List.getElem?_toArray, List.getElem?_cons_succ, List.getElem?_cons_zero, Option.some.injEq] at ho
    subst ho
    have x70 : a.tmps[70]?.getD undef = .agg #[.slice A6 n6 c6] := by rw [← ev]; exact hG.val 22 29 70 _ rfl (hdep ⟨29, .data⟩ (by simp) rfl)
    have x71 : a.tmps[71]?.getD undef = .slice A4 n4 c4 := by rw [← ev]; exact hG.val 23 30 71 _ rfl (hdep ⟨30, .data⟩ (by simp) rfl)
    have xg : a.tmps[69]?.getD undef = .bool true := by rw [← ev]; exact hG.val 21 28 69 _ rfl (hdep ⟨28, .chain⟩ (by simp) rfl)
    have hw := wanted_of (ops := opsSqsy7) (a := a) (o := { dst := some 72, op := Op.call { callee := Callee.value (Operand.func 14), args := #[Operand.tmp 70, Operand.tmp 71], argTypes := #[25, 30] }, type := 30, pos := "law.go:81", after := #[{ on := 29, ground := Ground.data }, { on := 30, ground := Ground.data }, { on := 28, ground := Ground.chain }, { on := 28, ground := Ground.guard }], guard := some (28, true) }) (g := 28) (s := 69) (b := true) (b' := true) rfl rfl xg
    replace hw := hw.trans (show (true == true) = true from rfl)
    rw [if_pos hw]
    clear hw xg
    have hSj := hG.at 7 (31, 72) rfl hLi (fun c h0 hc => by simp [sqsy7C] at hc; subst hc; exact hcl 28 _ rfl (hdep ⟨28, .chain⟩ (by simp) rfl) ⟨25, .chain⟩ (by simp [opsSqsy7]) rfl)
    have hfin := fun v w' hs => hK v w' (hG.call 7 (31, 72) rfl hLi (fun c h0 hc => by simp [sqsy7C] at hc; subst hc; exact hcl 28 _ rfl (hdep ⟨28, .chain⟩ (by simp) rfl) ⟨25, .chain⟩ (by simp [opsSqsy7]) rfl) (by kernel_rfl) v w' hs)
    have HK := Lib.hid hfin
    generalize (resOf sqsy7C fun t => a.eval (.tmp t)) = R at *
    clear hG hcl hdep hfr hK hfin hLi
    have hc := Lib.hid (hc7 _ _ hSj)
    clear hSj hx hv hc0 hc1 hc2 hc3 hc4 hc5 hc6 hc7 hc8 hc9 hc10 hc11 hc12 hc13
    go_simp
    go_at_call 14
    refine hc.out.mono ?_
    rintro e w' ⟨v, rfl, hs⟩
    exact HK.out v w' hs
  | 32, ho =>
    simp only [opsSqsy7, List.getElem?_toArray, List.getElem?_cons_succ, List.getElem?_cons_zero, Option.some.injEq] at ho
    subst ho
    have xg : a.tmps[69]?.getD undef = .bool true := by rw [← ev]; exact hG.val 21 28 69 _ rfl (hdep ⟨28, .guard⟩ (by simp) rfl)
    have hw := wanted_of (ops := opsSqsy7) (a := a) (o := { dst := some 73, op := Op.load 25 (Operand.tmp 6), type := 25, pos := "law.go:81", after := #[{ on := 28, ground := Ground.guard }], guard := some (28, true) }) (g := 28) (s := 69) (b := true) (b' := true) rfl rfl xg
    replace hw := hw.trans (show (true == true) = true from rfl)
    rw [if_pos hw]
    clear hw xg
    obtain ⟨ph, hSp, hdone⟩ := hG.any
    have hfin := hK (.agg #[.slice A6 n6 c6]) w (hG.quiet 24 32 73 _ rfl (by kernel_rfl) (by kernel_rfl))
    have HK := Lib.hid hfin
    generalize (resOf sqsy7C fun t => a.eval (.tmp t)) = R at *
    obtain ⟨q1, q2, q3⟩ := hx _ _ _ hSp
    clear hx hv hc0 hc1 hc2 hc3 hc4 hc5 hc6 hc7 hc8 hc9 hc10 hc11 hc12 hc13 q2 q3
    clear hSp hdone
    clear hG hcl hdep hfr hK hfin hLi 
    go_simp
    exact HK.out
  | 33, ho =>
    simp only [opsSqsy7, List.getElem?_toArray, List.getElem?_cons_succ, List.getElem?_cons_zero, Option.some.injEq] at ho
    subst ho
    have x73 : a.tmps[73]?.getD undef = .agg #[.slice A6 n6 c6] := by rw [← ev]; exact hG.val 24 32 73 _ rfl (hdep ⟨32, .data⟩ (by simp) rfl)
    have xg : a.tmps[69]?.getD undef = .bool true := by rw [← ev]; exact hG.val 21 28 69 _ rfl (hdep ⟨28, .guard⟩ (by simp) rfl)
    have hw := wanted_of (ops := opsSqsy7) (a := a) (o := { dst := some 74, op := Op.call { callee := Callee.value (Operand.func 18), args := #[Operand.tmp 73], argTypes := #[25] }, type := 37, pos := "law.go:81", after := #[{ on := 32, ground := Ground.data }, { on := 31, ground := Ground.chain }, { on := 28, ground := Ground.guard }], guard := some (28, true) }) (g := 28) (s := 69) (b := true) (b' := true) rfl rfl xg
    replace hw := hw.trans (show (true == true) = true from rfl)
    rw [if_pos hw]
    clear hw xg
    have hSj := hG.at 8 (33, 74) rfl hLi (fun c h0 hc => by simp [sqsy7C] at hc; subst hc; exact hdep ⟨31, .chain⟩ (by simp) rfl)
    have hfin := fun v w' hs => hK v w' (hG.call 8 (33, 74) rfl hLi (fun c h0 hc => by simp [sqsy7C] at hc; subst hc; exact hdep ⟨31, .chain⟩ (by simp) rfl) (by kernel_rfl) v w' hs)
    have HK := Lib.hid hfin
    generalize (resOf sqsy7C fun t => a.eval (.tmp t)) = R at *
    clear hG hcl hdep hfr hK hfin hLi
    have hc := Lib.hid (hc8 _ _ hSj)
    clear hSj hx hv hc0 hc1 hc2 hc3 hc4 hc5 hc6 hc7 hc8 hc9 hc10 hc11 hc12 hc13
    go_simp
    go_at_call 18
    refine hc.out.mono ?_
    rintro e w' ⟨v, rfl, hs⟩
    exact HK.out v w' hs
  | 34, ho =>
    simp only [opsSqsy7, List.getElem?_toArray, List.getElem?_cons_succ, List.getElem?_cons_zero, Option.some.injEq] at ho
    subst ho
    have xg : a.tmps[69]?.getD undef = .bool true := by rw [← ev]; exact hG.val 21 28 69 _ rfl (hdep ⟨28, .guard⟩ (by simp) rfl)
    have hw := wanted_of (ops := opsSqsy7) (a := a) (o := { dst := some 75, op := Op.move (Operand.tmp 4), type := 30, pos := "law.go:81", after := #[{ on := 28, ground := Ground.guard }], guard := some (28, true) }) (g := 28) (s := 69) (b := true) (b' := true) rfl rfl xg
    replace hw := hw.trans (show (true == true) = true from rfl)
    rw [if_pos hw]
    clear hw xg
    have hfin := hK (.slice A4 n4 c4) w (hG.quiet 25 34 75 _ rfl (by kernel_rfl) (by kernel_rfl))
    have HK := Lib.hid hfin
    clear hG hcl hdep hfr hK hfin hLi 
    go_simp
    exact HK.out
  | 35, ho =>
    simp only [opsSqsy7, List.getElem?_toArray, List.getElem?_cons_succ, List.getElem?_cons_zero, Option.some.injEq] at ho
    subst ho
    have x75 : a.tmps[75]?.getD undef = .slice A4 n4 c4 := by rw [← ev]; exact hG.val 25 34 75 _ rfl (hdep ⟨34, .data⟩ (by simp) rfl)
    have xg : a.tmps[69]?.getD undef = .bool true := by rw [← ev]; exact hG.val 21 28 69 _ rfl (hdep ⟨28, .guard⟩ (by simp) rfl)
    have hw := wanted_of (ops := opsSqsy7) (a := a) (o := { dst := some 76, op := Op.call { callee := Callee.value (Operand.func 20), args := #[Operand.tmp 74, Operand.tmp 75], argTypes := #[37, 30] }, type := 30, pos := "law.go:81", after := #[{ on := 33, ground := Ground.data }, { on := 34, ground := Ground.data }, { on := 33, ground := Ground.chain }, { on := 28, ground := Ground.guard }], guard := some (28, true) }) (g := 28) (s := 69) (b := true) (b' := true) rfl rfl xg
    replace hw := hw.trans (show (true == true) = true from rfl)
    rw [if_pos hw]
    clear hw xg
    have hSj := hG.at 9 (35, 76) rfl hLi (fun c h0 hc => by simp [sqsy7C] at hc; subst hc; exact hdep ⟨33, .data⟩ (by simp) rfl)
    have r74 : a.tmps[74]?.getD undef = resOf sqsy7C (fun t => a.eval (.tmp t)) 8 := by rw [← ev]; exact (resOf_at (C := sqsy7C) (j := 8) rfl a).symm
    have hfin := fun v w' hs => hK v w' (hG.call 9 (35, 76) rfl hLi (fun c h0 hc => by simp [sqsy7C] at hc; subst hc; exact hdep ⟨33, .data⟩ (by simp) rfl) (by kernel_rfl) v w' hs)
    have HK := Lib.hid hfin
    generalize (resOf sqsy7C fun t => a.eval (.tmp t)) = R at *
    clear hG hcl hdep hfr hK hfin hLi
    have hc := Lib.hid (hc9 _ _ hSj)
    clear hSj hx hv hc0 hc1 hc2 hc3 hc4 hc5 hc6 hc7 hc8 hc9 hc10 hc11 hc12 hc13
    go_simp
    go_at_call 20
    refine hc.out.mono ?_
    rintro e w' ⟨v, rfl, hs⟩
    exact HK.out v w' hs
  | 36, ho =>
    simp only [opsSqsy7, List.getElem?_toArray, List.getElem?_cons_succ, List.getElem?_cons_zero, Option.some.injEq] at ho
    subst ho
    have xg : a.tmps[69]?.getD undef = .bool true := by rw [← ev]; exact hG.val 21 28 69 _ rfl (hdep ⟨28, .guard⟩ (by simp) rfl)
    have hw := wanted_of (ops := opsSqsy7) (a := a) (o := { dst := some 77, op := Op.call { callee := Callee.value (Operand.func 13), args := #[Operand.tmp 72, Operand.tmp 76], argTypes := #[30, 30] }, type := 4, pos := "law.go:81", after := #[{ on := 31, ground := Ground.data }, { on := 35, ground := Ground.data }, { on := 35, ground := Ground.chain }, { on := 28, ground := Ground.guard }], guard := some (28, true) }) (g := 28) (s := 69) (b := true) (b' := true) rfl rfl xg
    replace hw := hw.trans (show (true == true) = true from rfl)
    rw [if_pos hw]
    clear hw xg
    have hSj := hG.at 10 (36, 77) rfl hLi (fun c h0 hc => by simp [sqsy7C] at hc; subst hc; exact hdep ⟨35, .data⟩ (by simp) rfl)
    have r72 : a.tmps[72]?.getD undef = resOf sqsy7C (fun t => a.eval (.tmp t)) 7 := by rw [← ev]; exact (resOf_at (C := sqsy7C) (j := 7) rfl a).symm
    have r76 : a.tmps[76]?.getD undef = resOf sqsy7C (fun t => a.eval (.tmp t)) 9 := by rw [← ev]; exact (resOf_at (C := sqsy7C) (j := 9) rfl a).symm
    have hfin := fun v w' hs => hK v w' (hG.call 10 (36, 77) rfl hLi (fun c h0 hc => by simp [sqsy7C] at hc; subst hc; exact hdep ⟨35, .data⟩ (by simp) rfl) (by kernel_rfl) v w' hs)
    have HK := Lib.hid hfin
    generalize (resOf sqsy7C fun t => a.eval (.tmp t)) = R at *
    clear hG hcl hdep hfr hK hfin hLi
    have hc := Lib.hid (hc10 _ _ hSj)
    clear hSj hx hv hc0 hc1 hc2 hc3 hc4 hc5 hc6 hc7 hc8 hc9 hc10 hc11 hc12 hc13
    go_simp
    go_at_call 13
    refine hc.out.mono ?_
    rintro e w' ⟨v, rfl, hs⟩
    exact HK.out v w' hs
  | 37, ho =>
    simp only [opsSqsy7, List.getElem?_toArray, List.getElem?_cons_succ, List.getElem?_cons_zero, Option.some.injEq] at ho
    subst ho
    have x69 : a.tmps[69]?.getD undef = .bool true := by rw [← ev]; exact hG.val 21 28 69 _ rfl (hdep ⟨28, .data⟩ (by simp) rfl)
    rw [if_pos (show Region.wanted _ _ = true from rfl)]
    obtain ⟨ph, hSp, hdone⟩ := hG.any
    have hd77 : 10 < ph := hdone 10 (36, 77) rfl (hdep ⟨36, .data⟩ (by simp) rfl)
    have r77 : a.tmps[77]?.getD undef = resOf sqsy7C (fun t => a.eval (.tmp t)) 10 := by rw [← ev]; exact (resOf_at (C := sqsy7C) (j := 10) rfl a).symm
    have hfin := hK (.bool true) w (hG.quiet 26 37 78 _ rfl (by kernel_rfl) (by kernel_rfl))
    have HK := Lib.hid hfin
    generalize (resOf sqsy7C fun t => a.eval (.tmp t)) = R at *
    rw [(hv _ _ _ hSp 10 hd77).1 (by decide)] at r77
    clear hx hv hc0 hc1 hc2 hc3 hc4 hc5 hc6 hc7 hc8 hc9 hc10 hc11 hc12 hc13 hd77
    clear hSp hdone
    clear hG hcl hdep hfr hK hfin hLi 
    go_simp
    exact HK.out
  | 38, ho =>
    simp only [opsSqsy7, List.getElem?_toArray, List.getElem?_cons_succ, List.getElem?_cons_zero, Option.some.injEq] at ho
    subst ho
    have x78 : a.tmps[78]?.getD undef = .bool true := by rw [← ev]; exact hG.val 26 37 78 _ rfl (hdep ⟨37, .data⟩ (by simp) rfl)
    rw [if_pos (show Region.wanted _ _ = true from rfl)]
    have hfin := hK (.bool true) w (hG.quiet 27 38 79 _ rfl (by kernel_rfl) (by kernel_rfl))
    have HK := Lib.hid hfin
    clear hG hcl hdep hfr hK hfin hLi 
    go_simp
    exact HK.out
  | 39, ho =>
    simp only [opsSqsy7, List.getElem?_toArray, List.getElem?_cons_succ, List.getElem?_cons_zero, Option.some.injEq] at ho
    subst ho
    have xg : a.tmps[79]?.getD undef = .bool true := by rw [← ev]; exact hG.val 27 38 79 _ rfl (hdep ⟨38, .guard⟩ (by simp) rfl)
    have hw := wanted_of (ops := opsSqsy7) (a := a) (o := { dst := some 80, op := Op.move (Operand.tmp 4), type := 30, pos := "law.go:81", after := #[{ on := 38, ground := Ground.guard }], guard := some (38, true) }) (g := 38) (s := 79) (b := true) (b' := true) rfl rfl xg
    replace hw := hw.trans (show (true == true) = true from rfl)
    rw [if_pos hw]
    clear hw xg
    have hfin := hK (.slice A4 n4 c4) w (hG.quiet 28 39 80 _ rfl (by kernel_rfl) (by kernel_rfl))
    have HK := Lib.hid hfin
    clear hG hcl hdep hfr hK hfin hLi 
    go_simp
    exact HK.out
  | 40, ho =>
    simp only [opsSqsy7, List.getElem?_toArray, List.getElem?_cons_succ, List.getElem?_cons_zero, Option.some.injEq] at ho
    subst ho
    have x80 : a.tmps[80]?.getD undef = .slice A4 n4 c4 := by rw [← ev]; exact hG.val 28 39 80 _ rfl (hdep ⟨39, .data⟩ (by simp) rfl)
    have xg : a.tmps[79]?.getD undef = .bool true := by rw [← ev]; exact hG.val 27 38 79 _ rfl (hdep ⟨38, .chain⟩ (by simp) rfl)
    have hw := wanted_of (ops := opsSqsy7) (a := a) (o := { dst := some 81, op := Op.call { callee := Callee.value (Operand.func 10), args := #[Operand.tmp 80], argTypes := #[30] }, type := 25, pos := "law.go:81", after := #[{ on := 39, ground := Ground.data }, { on := 38, ground := Ground.chain }, { on := 38, ground := Ground.guard }], guard := some (38, true) }) (g := 38) (s := 79) (b := true) (b' := true) rfl rfl xg
    replace hw := hw.trans (show (true == true) = true from rfl)
    rw [if_pos hw]
    clear hw xg
    have hSj := hG.at 11 (40, 81) rfl hLi (fun c h0 hc => by simp [sqsy7C] at hc; subst hc; exact hcl 38 _ rfl (hdep ⟨38, .chain⟩ (by simp) rfl) ⟨36, .chain⟩ (by simp [opsSqsy7]) rfl)
    have hfin := fun v w' hs => hK v w' (hG.call 11 (40, 81) rfl hLi (fun c h0 hc => by simp [sqsy7C] at hc; subst hc; exact hcl 38 _ rfl (hdep ⟨38, .chain⟩ (by simp) rfl) ⟨36, .chain⟩ (by simp [opsSqsy7]) rfl) (by kernel_rfl) v w' hs)
    have HK := Lib.hid hfin
    generalize (resOf sqsy7C fun t => a.eval (.tmp t)) = R at *
    clear hG hcl hdep hfr hK hfin hLi
    have hc := Lib.hid (hc11 _ _ hSj)
    clear hSj hx hv hc0 hc1 hc2 hc3 hc4 hc5 hc6 hc7 hc8 hc9 hc10 hc11 hc12 hc13
    go_simp
    go_at_call 10
    refine hc.out.mono ?_
    rintro e w' ⟨v, rfl, hs⟩
    exact HK.out v w' hs
  | 41, ho =>
    simp only [opsSqsy7, List.getElem?_toArray, List.getElem?_cons_succ, List.getElem?_cons_zero, Option.some.injEq] at ho
    subst ho
    have xg : a.tmps[79]?.getD undef = .bool true := by rw [← ev]; exact hG.val 27 38 79 _ rfl (hdep ⟨38, .guard⟩ (by simp) rfl)
    have hw := wanted_of (ops := opsSqsy7) (a := a) (o := { dst := some 82, op := Op.move (Operand.tmp 4), type := 30, pos := "law.go:81", after := #[{ on := 38, ground := Ground.guard }], guard := some (38, true) }) (g := 38) (s := 79) (b := true) (b' := true) rfl rfl xg
    replace hw := hw.trans (show (true == true) = true from rfl)
    rw [if_pos hw]
    clear hw xg
    have hfin := hK (.slice A4 n4 c4) w (hG.quiet 29 41 82 _ rfl (by kernel_rfl) (by kernel_rfl))
    have HK := Lib.hid hfin
    clear hG hcl hdep hfr hK hfin hLi 
    go_simp
    exact HK.out
  | 42, ho =>
    simp only [opsSqsy7, List.getElem?_toArray, List.getElem?_cons_succ, List.getElem?_cons_zero, Option.some.injEq] at ho
    subst ho
    have x82 : a.tmps[82]?.getD undef = .slice A4 n4 c4 := by rw [← ev]; exact hG.val 29 41 82 _ rfl (hdep ⟨41, .data⟩ (by simp) rfl)
    have xg : a.tmps[79]?.getD undef = .bool true := by rw [← ev]; exact hG.val 27 38 79 _ rfl (hdep ⟨38, .guard⟩ (by simp) rfl)
    have hw := wanted_of (ops := opsSqsy7) (a := a) (o := { dst := some 83, op := Op.call { callee := Callee.value (Operand.func 21), args := #[Operand.tmp 82], argTypes := #[30] }, type := 37, pos := "law.go:81", after := #[{ on := 41, ground := Ground.data }, { on := 40, ground := Ground.chain }, { on := 38, ground := Ground.guard }], guard := some (38, true) }) (g := 38) (s := 79) (b := true) (b' := true) rfl rfl xg
    replace hw := hw.trans (show (true == true) = true from rfl)
    rw [if_pos hw]
    clear hw xg
    have hSj := hG.at 12 (42, 83) rfl hLi (fun c h0 hc => by simp [sqsy7C] at hc; subst hc; exact hdep ⟨40, .chain⟩ (by simp) rfl)
    have hfin := fun v w' hs => hK v w' (hG.call 12 (42, 83) rfl hLi (fun c h0 hc => by simp [sqsy7C] at hc; subst hc; exact hdep ⟨40, .chain⟩ (by simp) rfl) (by kernel_rfl) v w' hs)
    have HK := Lib.hid hfin
    generalize (resOf sqsy7C fun t => a.eval (.tmp t)) = R at *
    clear hG hcl hdep hfr hK hfin hLi
    have hc := Lib.hid (hc12 _ _ hSj)
    clear hSj hx hv hc0 hc1 hc2 hc3 hc4 hc5 hc6 hc7 hc8 hc9 hc10 hc11 hc12 hc13
    go_simp
    go_at_call 21
    refine hc.out.mono ?_
    rintro e w' ⟨v, rfl, hs⟩
    exact HK.out v w' hs
  | 43, ho =>
    simp only [opsSqsy7, List.getElem?_toArray, List.getElem?_cons_succ, List.getElem?_cons_zero, Option.some.injEq] at ho
    subst ho
    have xg : a.tmps[79]?.getD undef = .bool true := by rw [← ev]; exact hG.val 27 38 79 _ rfl (hdep ⟨38, .guard⟩ (by simp) rfl)
    have hw := wanted_of (ops := opsSqsy7) (a := a) (o := { dst := some 84, op := Op.call { callee := Callee.value (Operand.func 16), args := #[Operand.tmp 81, Operand.tmp 83], argTypes := #[25, 37] }, type := 4, pos := "law.go:81", after := #[{ on := 40, ground := Ground.data }, { on := 42, ground := Ground.data }, { on := 42, ground := Ground.chain }, { on := 38, ground := Ground.guard }], guard := some (38, true) }) (g := 38) (s := 79) (b := true) (b' := true) rfl rfl xg
    replace hw := hw.trans (show (true == true) = true from rfl)
    rw [if_pos hw]
    clear hw xg
    have hSj := hG.at 13 (43, 84) rfl hLi (fun c h0 hc => by simp [sqsy7C] at hc; subst hc; exact hdep ⟨42, .data⟩ (by simp) rfl)
    have r81 : a.tmps[81]?.getD undef = resOf sqsy7C (fun t => a.eval (.tmp t)) 11 := by rw [← ev]; exact (resOf_at (C := sqsy7C) (j := 11) rfl a).symm
    have r83 : a.tmps[83]?.getD undef = resOf sqsy7C (fun t => a.eval (.tmp t)) 12 := by rw [← ev]; exact (resOf_at (C := sqsy7C) (j := 12) rfl a).symm
    have hfin := fun v w' hs => hK v w' (hG.call 13 (43, 84) rfl hLi (fun c h0 hc => by simp [sqsy7C] at hc; subst hc; exact hdep ⟨42, .data⟩ (by simp) rfl) (by kernel_rfl) v w' hs)
    have HK := Lib.hid hfin
    generalize (resOf sqsy7C fun t => a.eval (.tmp t)) = R at *
    clear hG hcl hdep hfr hK hfin hLi
    have hc := Lib.hid (hc13 _ _ hSj)
    clear hSj hx hv hc0 hc1 hc2 hc3 hc4 hc5 hc6 hc7 hc8 hc9 hc10 hc11 hc12 hc13
    go_simp
    go_at_call 16
    refine hc.out.mono ?_
    rintro e w' ⟨v, rfl, hs⟩
    exact HK.out v w' hs
  | 44, ho =>
    simp only [opsSqsy7, List.getElem?_toArray, List.getElem?_cons_succ, List.getElem?_cons_zero, Option.some.injEq] at ho
    subst ho
    have x79 : a.tmps[79]?.getD undef = .bool true := by rw [← ev]; exact hG.val 27 38 79 _ rfl (hdep ⟨38, .data⟩ (by simp) rfl)
    rw [if_pos (show Region.wanted _ _ = true from rfl)]
    obtain ⟨ph, hSp, hdone⟩ := hG.any
    have hd84 : 13 < ph := hdone 13 (43, 84) rfl (hdep ⟨43, .data⟩ (by simp) rfl)
    have r84 : a.tmps[84]?.getD undef = resOf sqsy7C (fun t => a.eval (.tmp t)) 13 := by rw [← ev]; exact (resOf_at (C := sqsy7C) (j := 13) rfl a).symm
    have hfin := hK (.bool true) w (hG.quiet 30 44 85 _ rfl (by kernel_rfl) (by kernel_rfl))
    have HK := Lib.hid hfin
    generalize (resOf sqsy7C fun t => a.eval (.tmp t)) = R at *
    rw [(hv _ _ _ hSp 13 hd84).1 (by decide)] at r84
    clear hx hv hc0 hc1 hc2 hc3 hc4 hc5 hc6 hc7 hc8 hc9 hc10 hc11 hc12 hc13 hd84
    clear hSp hdone
    clear hG hcl hdep hfr hK hfin hLi 
    go_simp
    exact HK.out
  | 45, ho =>
    simp only [opsSqsy7, List.getElem?_toArray, List.getElem?_cons_succ, List.getElem?_cons_zero, Option.some.injEq] at ho
    subst ho
    have x85 : a.tmps[85]?.getD undef = .bool true := by rw [← ev]; exact hG.val 30 44 85 _ rfl (hdep ⟨44, .data⟩ (by simp) rfl)
    rw [if_pos (show Region.wanted _ _ = true from rfl)]
    have hfin := hK (.bool true) w (hG.quiet 31 45 10 _ rfl (by kernel_rfl) (by kernel_rfl))
    have HK := Lib.hid hfin
    clear hG hcl hdep hfr hK hfin hLi 
    go_simp
    exact HK.out
  | n + 46, ho => exact absurd (Array.getElem?_eq_some_iff.1 ho).1 (by show ¬ n + 46 < 46; omega)
end Go.Proofs.YtmcglecdidnhlaaDoor
