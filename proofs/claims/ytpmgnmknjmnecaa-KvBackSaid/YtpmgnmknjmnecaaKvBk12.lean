/- KvBack: what three tables tell. -/
import Derived.Test.YtpmgnmknjmnecaaVals
import Derived.Test.YtpmgnmknjmnecaaAppend
import Derived.WalkKit
import Derived.WalkSpells
import Derived.WalkLawsBesides
import Derived.Lib.Hide
namespace Go.Proofs.Ytpmgnmknjmnecaa
open Go.RowKit
set_option linter.unusedVariables false
set_option linter.unusedSimpArgs false

def opsKbk12 : Array Oper := #[
  { dst := some 41, op := Op.move (Operand.tmp 5), type := 25, pos := "law.go:125", after := #[], guard := none },
  { dst := some 42, op := Op.binOp BinOp.eql 25 (Operand.tmp 41) (Operand.const (Value.int IntKind.i64 0)) 25, type := 4, pos := "law.go:125", after := #[{ on := 0, ground := Ground.data }], guard := none },
  { dst := some 43, op := Op.move (Operand.tmp 42), type := 4, pos := "law.go:125", after := #[{ on := 1, ground := Ground.data }], guard := none },
  { dst := some 44, op := Op.move (Operand.tmp 7), type := 25, pos := "law.go:125", after := #[{ on := 2, ground := Ground.guard }], guard := some (2, true) },
  { dst := some 45, op := Op.binOp BinOp.eql 25 (Operand.tmp 44) (Operand.const (Value.int IntKind.i64 0)) 25, type := 4, pos := "law.go:125", after := #[{ on := 3, ground := Ground.data }, { on := 2, ground := Ground.guard }], guard := some (2, true) },
  { dst := some 46, op := Op.pick (Operand.tmp 43) (Operand.tmp 45) (Operand.const (Value.bool false)), type := 4, pos := "law.go:125", after := #[{ on := 2, ground := Ground.data }, { on := 4, ground := Ground.data }], guard := none },
  { dst := some 47, op := Op.move (Operand.tmp 46), type := 4, pos := "law.go:125", after := #[{ on := 5, ground := Ground.data }, { on := 2, ground := Ground.chain }], guard := none },
  { dst := some 48, op := Op.move (Operand.tmp 4), type := 31, pos := "law.go:125", after := #[{ on := 6, ground := Ground.guard }], guard := some (6, true) },
  { dst := some 49, op := Op.call { callee := Callee.builtin Builtin.len, args := #[Operand.tmp 48], argTypes := #[31] }, type := 3, pos := "law.go:125", after := #[{ on := 7, ground := Ground.data }, { on := 6, ground := Ground.guard }], guard := some (6, true) },
  { dst := some 50, op := Op.move (Operand.tmp 0), type := 31, pos := "law.go:125", after := #[{ on := 6, ground := Ground.guard }], guard := some (6, true) },
  { dst := some 51, op := Op.call { callee := Callee.builtin Builtin.len, args := #[Operand.tmp 50], argTypes := #[31] }, type := 3, pos := "law.go:125", after := #[{ on := 9, ground := Ground.data }, { on := 6, ground := Ground.guard }], guard := some (6, true) },
  { dst := some 52, op := Op.binOp BinOp.eql 3 (Operand.tmp 49) (Operand.tmp 51) 3, type := 4, pos := "law.go:125", after := #[{ on := 8, ground := Ground.data }, { on := 10, ground := Ground.data }, { on := 6, ground := Ground.guard }], guard := some (6, true) },
  { dst := some 53, op := Op.pick (Operand.tmp 47) (Operand.tmp 52) (Operand.const (Value.bool false)), type := 4, pos := "law.go:125", after := #[{ on := 6, ground := Ground.data }, { on := 11, ground := Ground.data }], guard := none },
  { dst := some 54, op := Op.move (Operand.tmp 53), type := 4, pos := "law.go:125", after := #[{ on := 12, ground := Ground.data }, { on := 6, ground := Ground.chain }], guard := none },
  { dst := some 55, op := Op.move (Operand.tmp 6), type := 23, pos := "law.go:125", after := #[{ on := 13, ground := Ground.guard }], guard := some (13, true) },
  { dst := some 56, op := Op.call { callee := Callee.value (Operand.func 14), args := #[Operand.tmp 55], argTypes := #[23] }, type := 27, pos := "law.go:125", after := #[{ on := 14, ground := Ground.data }, { on := 13, ground := Ground.chain }, { on := 13, ground := Ground.guard }], guard := some (13, true) },
  { dst := some 57, op := Op.convert 27 9 (Operand.tmp 56), type := 9, pos := "law.go:125", after := #[{ on := 15, ground := Ground.data }, { on := 13, ground := Ground.guard }], guard := some (13, true) },
  { dst := some 58, op := Op.move (Operand.tmp 3), type := 23, pos := "law.go:125", after := #[{ on := 13, ground := Ground.guard }], guard := some (13, true) },
  { dst := some 59, op := Op.call { callee := Callee.value (Operand.func 14), args := #[Operand.tmp 58], argTypes := #[23] }, type := 27, pos := "law.go:125", after := #[{ on := 17, ground := Ground.data }, { on := 15, ground := Ground.chain }, { on := 13, ground := Ground.guard }], guard := some (13, true) },
  { dst := some 60, op := Op.convert 27 9 (Operand.tmp 59), type := 9, pos := "law.go:125", after := #[{ on := 18, ground := Ground.data }, { on := 13, ground := Ground.guard }], guard := some (13, true) },
  { dst := some 61, op := Op.binOp BinOp.eql 9 (Operand.tmp 57) (Operand.tmp 60) 9, type := 4, pos := "law.go:125", after := #[{ on := 16, ground := Ground.data }, { on := 19, ground := Ground.data }, { on := 13, ground := Ground.guard }], guard := some (13, true) },
  { dst := some 62, op := Op.pick (Operand.tmp 54) (Operand.tmp 61) (Operand.const (Value.bool false)), type := 4, pos := "law.go:125", after := #[{ on := 13, ground := Ground.data }, { on := 20, ground := Ground.data }], guard := none },
  { dst := some 63, op := Op.move (Operand.tmp 62), type := 4, pos := "law.go:125", after := #[{ on := 21, ground := Ground.data }, { on := 18, ground := Ground.chain }], guard := none },
  { dst := some 64, op := Op.move (Operand.tmp 9), type := 25, pos := "law.go:125", after := #[{ on := 22, ground := Ground.guard }], guard := some (22, true) },
  { dst := some 65, op := Op.binOp BinOp.eql 25 (Operand.tmp 64) (Operand.const (Value.int IntKind.i64 0)) 25, type := 4, pos := "law.go:125", after := #[{ on := 23, ground := Ground.data }, { on := 22, ground := Ground.guard }], guard := some (22, true) },
  { dst := some 66, op := Op.pick (Operand.tmp 63) (Operand.tmp 65) (Operand.const (Value.bool false)), type := 4, pos := "law.go:125", after := #[{ on := 22, ground := Ground.data }, { on := 24, ground := Ground.data }], guard := none },
  { dst := some 67, op := Op.move (Operand.tmp 66), type := 4, pos := "law.go:125", after := #[{ on := 25, ground := Ground.data }, { on := 22, ground := Ground.chain }], guard := none },
  { dst := some 68, op := Op.move (Operand.tmp 8), type := 23, pos := "law.go:125", after := #[{ on := 26, ground := Ground.guard }], guard := some (26, true) },
  { dst := some 69, op := Op.binOp BinOp.neq 23 (Operand.tmp 68) (Operand.const (Value.pointer none)) 23, type := 4, pos := "law.go:125", after := #[{ on := 27, ground := Ground.data }, { on := 26, ground := Ground.guard }], guard := some (26, true) },
  { dst := some 70, op := Op.pick (Operand.tmp 67) (Operand.tmp 69) (Operand.const (Value.bool false)), type := 4, pos := "law.go:125", after := #[{ on := 26, ground := Ground.data }, { on := 28, ground := Ground.data }], guard := none },
  { dst := some 71, op := Op.move (Operand.tmp 70), type := 4, pos := "law.go:125", after := #[{ on := 29, ground := Ground.data }, { on := 26, ground := Ground.chain }], guard := none },
  { dst := some 72, op := Op.move (Operand.tmp 8), type := 23, pos := "law.go:125", after := #[{ on := 30, ground := Ground.guard }], guard := some (30, true) },
  { dst := some 73, op := Op.call { callee := Callee.value (Operand.func 11), args := #[Operand.tmp 72], argTypes := #[23] }, type := 3, pos := "law.go:125", after := #[{ on := 31, ground := Ground.data }, { on := 30, ground := Ground.chain }, { on := 30, ground := Ground.guard }], guard := some (30, true) },
  { dst := some 74, op := Op.move (Operand.tmp 3), type := 23, pos := "law.go:125", after := #[{ on := 30, ground := Ground.guard }], guard := some (30, true) },
  { dst := some 75, op := Op.call { callee := Callee.value (Operand.func 11), args := #[Operand.tmp 74], argTypes := #[23] }, type := 3, pos := "law.go:125", after := #[{ on := 33, ground := Ground.data }, { on := 32, ground := Ground.chain }, { on := 30, ground := Ground.guard }], guard := some (30, true) },
  { dst := some 76, op := Op.binOp BinOp.eql 3 (Operand.tmp 73) (Operand.tmp 75) 3, type := 4, pos := "law.go:125", after := #[{ on := 32, ground := Ground.data }, { on := 34, ground := Ground.data }, { on := 30, ground := Ground.guard }], guard := some (30, true) },
  { dst := some 77, op := Op.pick (Operand.tmp 71) (Operand.tmp 76) (Operand.const (Value.bool false)), type := 4, pos := "law.go:125", after := #[{ on := 30, ground := Ground.data }, { on := 35, ground := Ground.data }], guard := none },
  { dst := some 78, op := Op.move (Operand.tmp 77), type := 4, pos := "law.go:125", after := #[{ on := 36, ground := Ground.data }, { on := 34, ground := Ground.chain }], guard := none },
  { dst := some 79, op := Op.move (Operand.tmp 8), type := 23, pos := "law.go:125", after := #[{ on := 37, ground := Ground.guard }], guard := some (37, true) },
  { dst := some 80, op := Op.call { callee := Callee.value (Operand.func 14), args := #[Operand.tmp 79], argTypes := #[23] }, type := 27, pos := "law.go:125", after := #[{ on := 38, ground := Ground.data }, { on := 37, ground := Ground.chain }, { on := 37, ground := Ground.guard }], guard := some (37, true) },
  { dst := some 81, op := Op.convert 27 9 (Operand.tmp 80), type := 9, pos := "law.go:125", after := #[{ on := 39, ground := Ground.data }, { on := 37, ground := Ground.guard }], guard := some (37, true) },
  { dst := some 82, op := Op.move (Operand.tmp 3), type := 23, pos := "law.go:125", after := #[{ on := 37, ground := Ground.guard }], guard := some (37, true) },
  { dst := some 83, op := Op.call { callee := Callee.value (Operand.func 14), args := #[Operand.tmp 82], argTypes := #[23] }, type := 27, pos := "law.go:125", after := #[{ on := 41, ground := Ground.data }, { on := 39, ground := Ground.chain }, { on := 37, ground := Ground.guard }], guard := some (37, true) },
  { dst := some 84, op := Op.convert 27 9 (Operand.tmp 83), type := 9, pos := "law.go:125", after := #[{ on := 42, ground := Ground.data }, { on := 37, ground := Ground.guard }], guard := some (37, true) },
  { dst := some 85, op := Op.binOp BinOp.eql 9 (Operand.tmp 81) (Operand.tmp 84) 9, type := 4, pos := "law.go:125", after := #[{ on := 40, ground := Ground.data }, { on := 43, ground := Ground.data }, { on := 37, ground := Ground.guard }], guard := some (37, true) },
  { dst := some 86, op := Op.pick (Operand.tmp 78) (Operand.tmp 85) (Operand.const (Value.bool false)), type := 4, pos := "law.go:125", after := #[{ on := 37, ground := Ground.data }, { on := 44, ground := Ground.data }], guard := none },
  { dst := some 2, op := Op.assign (Operand.tmp 86), type := 4, pos := "law.go:125", after := #[{ on := 45, ground := Ground.data }, { on := 42, ground := Ground.chain }, { on := 0, ground := Ground.phase }, { on := 1, ground := Ground.phase }, { on := 2, ground := Ground.phase }, { on := 3, ground := Ground.phase }, { on := 4, ground := Ground.phase }, { on := 5, ground := Ground.phase }, { on := 6, ground := Ground.phase }, { on := 7, ground := Ground.phase }, { on := 8, ground := Ground.phase }, { on := 9, ground := Ground.phase }, { on := 10, ground := Ground.phase }, { on := 11, ground := Ground.phase }, { on := 12, ground := Ground.phase }, { on := 13, ground := Ground.phase }, { on := 14, ground := Ground.phase }, { on := 15, ground := Ground.phase }, { on := 16, ground := Ground.phase }, { on := 17, ground := Ground.phase }, { on := 18, ground := Ground.phase }, { on := 19, ground := Ground.phase }, { on := 20, ground := Ground.phase }, { on := 21, ground := Ground.phase }, { on := 22, ground := Ground.phase }, { on := 23, ground := Ground.phase }, { on := 24, ground := Ground.phase }, { on := 25, ground := Ground.phase }, { on := 26, ground := Ground.phase }, { on := 27, ground := Ground.phase }, { on := 28, ground := Ground.phase }, { on := 29, ground := Ground.phase }, { on := 30, ground := Ground.phase }, { on := 31, ground := Ground.phase }, { on := 32, ground := Ground.phase }, { on := 33, ground := Ground.phase }, { on := 34, ground := Ground.phase }, { on := 35, ground := Ground.phase }, { on := 36, ground := Ground.phase }, { on := 37, ground := Ground.phase }, { on := 38, ground := Ground.phase }, { on := 39, ground := Ground.phase }, { on := 40, ground := Ground.phase }, { on := 41, ground := Ground.phase }, { on := 42, ground := Ground.phase }, { on := 43, ground := Ground.phase }, { on := 44, ground := Ground.phase }, { on := 45, ground := Ground.phase }], guard := none }]

def kbk12Vals (t u x nb nl c0 c4 : Nat) (A0 A4 : Option Addr) (nn : Int) (bs : ByteArray) : List (Nat × Nat × Value) := [(0, 41, .int .i64 0), (1, 42, .bool true), (2, 43, .bool true), (3, 44, .int .i64 0), (4, 45, .bool true), (5, 46, .bool true), (6, 47, .bool true), (7, 48, .slice A4 nl c4), (8, 49, .int .i64 (nl : Int)), (9, 50, .slice A0 nl c0), (10, 51, .int .i64 (nl : Int)), (11, 52, .bool true), (12, 53, .bool true), (13, 54, .bool true), (14, 55, .pointer (some ⟨u, 0, none⟩)), (16, 57, .string bs), (17, 58, .pointer (some ⟨t, 0, none⟩)), (19, 60, .string bs), (20, 61, .bool true), (21, 62, .bool true), (22, 63, .bool true), (23, 64, .int .i64 0), (24, 65, .bool true), (25, 66, .bool true), (26, 67, .bool true), (27, 68, .pointer (some ⟨x, 0, none⟩)), (28, 69, .bool true), (29, 70, .bool true), (30, 71, .bool true), (31, 72, .pointer (some ⟨x, 0, none⟩)), (33, 74, .pointer (some ⟨t, 0, none⟩)), (35, 76, .bool true), (36, 77, .bool true), (37, 78, .bool true), (38, 79, .pointer (some ⟨x, 0, none⟩)), (40, 81, .string bs), (41, 82, .pointer (some ⟨t, 0, none⟩)), (43, 84, .string bs), (44, 85, .bool true), (45, 86, .bool true), (46, 2, .bool true)]
def kbk12C : List (Nat × Nat) := [(15, 56), (18, 59), (32, 73), (34, 75), (39, 80), (42, 83)]

set_option maxHeartbeats 8000000 in
set_option maxRecDepth 100000 in
theorem kbk12 {Q : Exit → Act → World → Prop} {a0 : Act} {wp : World} (t u x nb nl c0 c4 : Nat) (A0 A4 : Option Addr) (nn : Int) (bs : ByteArray) (S : Nat → (Nat → Value) → World → Prop)
    (hsz : 86 < a0.tmps.size) (in0 : a0.eval (.tmp 0) = .slice A0 nl c0) (in3 : a0.eval (.tmp 3) = .pointer (some ⟨t, 0, none⟩)) (in4 : a0.eval (.tmp 4) = .slice A4 nl c4) (in5 : a0.eval (.tmp 5) = .int .i64 0) (in6 : a0.eval (.tmp 6) = .pointer (some ⟨u, 0, none⟩)) (in7 : a0.eval (.tmp 7) = .int .i64 0) (in8 : a0.eval (.tmp 8) = .pointer (some ⟨x, 0, none⟩)) (in9 : a0.eval (.tmp 9) = .int .i64 0)
    (hcv : ∀ p R w, S p R w → ∀ k, k < p → k ≠ 2 → k ≠ 3 → ∃ A c, R k = .slice A nb c ∧ (convert 27 9 (.slice A nb c)).run Try.prog w = .ok (.string bs) w)
    (hln : ∀ p R w, S p R w → ∀ k, k < p → k = 2 ∨ k = 3 → R k = .int .i64 nn)
    (hc0 : ∀ R w, S 0 R w → Calls Try.prog 14 #[.pointer (some ⟨u, 0, none⟩)] w fun e w' => ∃ v, e = .returned v ∧ S 1 (setR R 0 v) w')
    (hc1 : ∀ R w, S 1 R w → Calls Try.prog 14 #[.pointer (some ⟨t, 0, none⟩)] w fun e w' => ∃ v, e = .returned v ∧ S 2 (setR R 1 v) w')
    (hc2 : ∀ R w, S 2 R w → Calls Try.prog 11 #[.pointer (some ⟨x, 0, none⟩)] w fun e w' => ∃ v, e = .returned v ∧ S 3 (setR R 2 v) w')
    (hc3 : ∀ R w, S 3 R w → Calls Try.prog 11 #[.pointer (some ⟨t, 0, none⟩)] w fun e w' => ∃ v, e = .returned v ∧ S 4 (setR R 3 v) w')
    (hc4 : ∀ R w, S 4 R w → Calls Try.prog 14 #[.pointer (some ⟨x, 0, none⟩)] w fun e w' => ∃ v, e = .returned v ∧ S 5 (setR R 4 v) w')
    (hc5 : ∀ R w, S 5 R w → Calls Try.prog 14 #[.pointer (some ⟨t, 0, none⟩)] w fun e w' => ∃ v, e = .returned v ∧ S 6 (setR R 5 v) w')
    (hS : S 0 (resOf kbk12C fun t => a0.eval (.tmp t)) wp.drew)
    (fin : ∀ a w, Fr [41, 42, 43, 44, 45, 46, 47, 48, 49, 50, 51, 52, 53, 54, 55, 56, 57, 58, 59, 60, 61, 62, 63, 64, 65, 66, 67, 68, 69, 70, 71, 72, 73, 74, 75, 76, 77, 78, 79, 80, 81, 82, 83, 84, 85, 86, 2] a0 a → a.eval (.tmp 2) = .bool true → S 6 (resOf kbk12C fun t => a.eval (.tmp t)) w → Q .normal a w) :
    (Code.region 12 opsKbk12 true).wp Try.prog Q a0 wp := by
  refine region_inv (by kernel_rfl) [41, 42, 43, 44, 45, 46, 47, 48, 49, 50, 51, 52, 53, 54, 55, 56, 57, 58, 59, 60, 61, 62, 63, 64, 65, 66, 67, 68, 69, 70, 71, 72, 73, 74, 75, 76, 77, 78, 79, 80, 81, 82, 83, 84, 85, 86, 2] (by kernel_rfl) (by kernel_rfl) (fun t ht => by simp at ht; omega) (GV (kbk12Vals t u x nb nl c0 c4 A0 A4 nn bs) kbk12C S) (.start hS) ?_
    (fun L a w hf hall hG => fin a w hf (hG.val 40 46 2 _ rfl (hall 46 (by decide))) (hG.fin (fun c hc => by simp [kbk12C] at hc; rcases hc with rfl | rfl | rfl | rfl | rfl | rfl <;> exact hall _ (by decide))))
  clear hS fin
  intro ix oo ho L a w hfr hG hLi hdep hcl K hK
  have e0 : a.tmps[0]?.getD undef = .slice A0 nl c0 := by rw [← ev]; exact (hfr.same 0 (by decide)).trans in0
  have e3 : a.tmps[3]?.getD undef = .pointer (some ⟨t, 0, none⟩) := by rw [← ev]; exact (hfr.same 3 (by decide)).trans in3
  have e4 : a.tmps[4]?.getD undef = .slice A4 nl c4 := by rw [← ev]; exact (hfr.same 4 (by decide)).trans in4
  have e5 : a.tmps[5]?.getD undef = .int .i64 0 := by rw [← ev]; exact (hfr.same 5 (by decide)).trans in5
  have e6 : a.tmps[6]?.getD undef = .pointer (some ⟨u, 0, none⟩) := by rw [← ev]; exact (hfr.same 6 (by decide)).trans in6
  have e7 : a.tmps[7]?.getD undef = .int .i64 0 := by rw [← ev]; exact (hfr.same 7 (by decide)).trans in7
  have e8 : a.tmps[8]?.getD undef = .pointer (some ⟨x, 0, none⟩) := by rw [← ev]; exact (hfr.same 8 (by decide)).trans in8
  have e9 : a.tmps[9]?.getD undef = .int .i64 0 := by rw [← ev]; exact (hfr.same 9 (by decide)).trans in9
  clear in0 in3 in4 in5 in6 in7 in8 in9
  match ix, ho with
  | 0, ho =>
    simp only [opsKbk12, List.getElem?_toArray, List.getElem?_cons_zero, Option.some.injEq] at ho
    subst ho
    rw [if_pos (show Region.wanted _ _ = true from rfl)]
    have hfin := hK (.int .i64 0) w (hG.quiet 0 0 41 _ rfl (by kernel_rfl) (by kernel_rfl))
    have HK := Lib.hid hfin
    clear hG hcl hdep hfr hK hfin hLi 
    go_simp
    exact HK.out
  | 1, ho =>
    simp only [opsKbk12, List.getElem?_toArray, List.getElem?_cons_succ, List.getElem?_cons_zero, Option.some.injEq] at ho
    subst ho
    have x41 : a.tmps[41]?.getD undef = .int .i64 0 := by rw [← ev]; exact hG.val 0 0 41 _ rfl (hdep ⟨0, .data⟩ (by simp) rfl)
    rw [if_pos (show Region.wanted _ _ = true from rfl)]
    have hfin := hK (.bool true) w (hG.quiet 1 1 42 _ rfl (by kernel_rfl) (by kernel_rfl))
    have HK := Lib.hid hfin
    clear hG hcl hdep hfr hK hfin hLi 
    go_simp
    exact HK.out
  | 2, ho =>
    simp only [opsKbk12, List.getElem?_toArray, List.getElem?_cons_succ, List.getElem?_cons_zero, Option.some.injEq] at ho
    subst ho
    have x42 : a.tmps[42]?.getD undef = .bool true := by rw [← ev]; exact hG.val 1 1 42 _ rfl (hdep ⟨1, .data⟩ (by simp) rfl)
    rw [if_pos (show Region.wanted _ _ = true from rfl)]
    have hfin := hK (.bool true) w (hG.quiet 2 2 43 _ rfl (by kernel_rfl) (by kernel_rfl))
    have HK := Lib.hid hfin
    clear hG hcl hdep hfr hK hfin hLi 
    go_simp
    exact HK.out
  | 3, ho =>
    simp only [opsKbk12, List.getElem?_toArray, List.getElem?_cons_succ, List.getElem?_cons_zero, Option.some.injEq] at ho
    subst ho
    have xg : a.tmps[43]?.getD undef = .bool true := by rw [← ev]; exact hG.val 2 2 43 _ rfl (hdep ⟨2, .guard⟩ (by simp) rfl)
    have hw := wanted_of (ops := opsKbk12) (a := a) (o := { dst := some 44, op := Op.move (Operand.tmp 7), type := 25, pos := "law.go:125", after := #[{ on := 2, ground := Ground.guard }], guard := some (2, true) }) (g := 2) (s := 43) (b := true) (b' := true) rfl rfl xg
    replace hw := hw.trans (show (true == true) = true from rfl)
    rw [if_pos hw]
    clear hw xg
    have hfin := hK (.int .i64 0) w (hG.quiet 3 3 44 _ rfl (by kernel_rfl) (by kernel_rfl))
    have HK := Lib.hid hfin
    clear hG hcl hdep hfr hK hfin hLi 
    go_simp
    exact HK.out
  | 4, ho =>
    simp only [opsKbk12, List.getElem?_toArray, List.getElem?_cons_succ, List.getElem?_cons_zero, Option.some.injEq] at ho
    subst ho
    have x44 : a.tmps[44]?.getD undef = .int .i64 0 := by rw [← ev]; exact hG.val 3 3 44 _ rfl (hdep ⟨3, .data⟩ (by simp) rfl)
    have xg : a.tmps[43]?.getD undef = .bool true := by rw [← ev]; exact hG.val 2 2 43 _ rfl (hdep ⟨2, .guard⟩ (by simp) rfl)
    have hw := wanted_of (ops := opsKbk12) (a := a) (o := { dst := some 45, op := Op.binOp BinOp.eql 25 (Operand.tmp 44) (Operand.const (Value.int IntKind.i64 0)) 25, type := 4, pos := "law.go:125", after := #[{ on := 3, ground := Ground.data }, { on := 2, ground := Ground.guard }], guard := some (2, true) }) (g := 2) (s := 43) (b := true) (b' := true) rfl rfl xg
    replace hw := hw.trans (show (true == true) = true from rfl)
    rw [if_pos hw]
    clear hw xg
    have hfin := hK (.bool true) w (hG.quiet 4 4 45 _ rfl (by kernel_rfl) (by kernel_rfl))
    have HK := Lib.hid hfin
    clear hG hcl hdep hfr hK hfin hLi 
    go_simp
    exact HK.out
  | 5, ho =>
    simp only [opsKbk12, List.getElem?_toArray, List.getElem?_cons_succ, List.getElem?_cons_zero, Option.some.injEq] at ho
    subst ho
    have x43 : a.tmps[43]?.getD undef = .bool true := by rw [← ev]; exact hG.val 2 2 43 _ rfl (hdep ⟨2, .data⟩ (by simp) rfl)
    have x45 : a.tmps[45]?.getD undef = .bool true := by rw [← ev]; exact hG.val 4 4 45 _ rfl (hdep ⟨4, .data⟩ (by simp) rfl)
    rw [if_pos (show Region.wanted _ _ = true from rfl)]
    have hfin := hK (.bool true) w (hG.quiet 5 5 46 _ rfl (by kernel_rfl) (by kernel_rfl))
    have HK := Lib.hid hfin
    clear hG hcl hdep hfr hK hfin hLi 
    go_simp
    exact HK.out
  | 6, ho =>
    simp only [opsKbk12, List.getElem?_toArray, List.getElem?_cons_succ, List.getElem?_cons_zero, Option.some.injEq] at ho
    subst ho
    have x46 : a.tmps[46]?.getD undef = .bool true := by rw [← ev]; exact hG.val 5 5 46 _ rfl (hdep ⟨5, .data⟩ (by simp) rfl)
    rw [if_pos (show Region.wanted _ _ = true from rfl)]
    have hfin := hK (.bool true) w (hG.quiet 6 6 47 _ rfl (by kernel_rfl) (by kernel_rfl))
    have HK := Lib.hid hfin
    clear hG hcl hdep hfr hK hfin hLi 
    go_simp
    exact HK.out
  | 7, ho =>
    simp only [opsKbk12, List.getElem?_toArray, List.getElem?_cons_succ, List.getElem?_cons_zero, Option.some.injEq] at ho
    subst ho
    have xg : a.tmps[47]?.getD undef = .bool true := by rw [← ev]; exact hG.val 6 6 47 _ rfl (hdep ⟨6, .guard⟩ (by simp) rfl)
    have hw := wanted_of (ops := opsKbk12) (a := a) (o := { dst := some 48, op := Op.move (Operand.tmp 4), type := 31, pos := "law.go:125", after := #[{ on := 6, ground := Ground.guard }], guard := some (6, true) }) (g := 6) (s := 47) (b := true) (b' := true) rfl rfl xg
    replace hw := hw.trans (show (true == true) = true from rfl)
    rw [if_pos hw]
    clear hw xg
    have hfin := hK (.slice A4 nl c4) w (hG.quiet 7 7 48 _ rfl (by kernel_rfl) (by kernel_rfl))
    have HK := Lib.hid hfin
    clear hG hcl hdep hfr hK hfin hLi 
    go_simp
    exact HK.out
  | 8, ho =>
    simp only [opsKbk12, List.getElem?_toArray, List.getElem?_cons_succ, List.getElem?_cons_zero, Option.some.injEq] at ho
    subst ho
    have x48 : a.tmps[48]?.getD undef = .slice A4 nl c4 := by rw [← ev]; exact hG.val 7 7 48 _ rfl (hdep ⟨7, .data⟩ (by simp) rfl)
    have xg : a.tmps[47]?.getD undef = .bool true := by rw [← ev]; exact hG.val 6 6 47 _ rfl (hdep ⟨6, .guard⟩ (by simp) rfl)
    have hw := wanted_of (ops := opsKbk12) (a := a) (o := { dst := some 49, op := Op.call { callee := Callee.builtin Builtin.len, args := #[Operand.tmp 48], argTypes := #[31] }, type := 3, pos := "law.go:125", after := #[{ on := 7, ground := Ground.data }, { on := 6, ground := Ground.guard }], guard := some (6, true) }) (g := 6) (s := 47) (b := true) (b' := true) rfl rfl xg
    replace hw := hw.trans (show (true == true) = true from rfl)
    rw [if_pos hw]
    clear hw xg
    have hfin := hK (.int .i64 (nl : Int)) w (hG.quiet 8 8 49 _ rfl (by kernel_rfl) (by kernel_rfl))
    have HK := Lib.hid hfin
    clear hG hcl hdep hfr hK hfin hLi 
    go_simp
    exact HK.out
  | 9, ho =>
    simp only [opsKbk12, List.getElem?_toArray, List.getElem?_cons_succ, List.getElem?_cons_zero, Option.some.injEq] at ho
    subst ho
    have xg : a.tmps[47]?.getD undef = .bool true := by rw [← ev]; exact hG.val 6 6 47 _ rfl (hdep ⟨6, .guard⟩ (by simp) rfl)
    have hw := wanted_of (ops := opsKbk12) (a := a) (o := { dst := some 50, op := Op.move (Operand.tmp 0), type := 31, pos := "law.go:125", after := #[{ on := 6, ground := Ground.guard }], guard := some (6, true) }) (g := 6) (s := 47) (b := true) (b' := true) rfl rfl xg
    replace hw := hw.trans (show (true == true) = true from rfl)
    rw [if_pos hw]
    clear hw xg
    have hfin := hK (.slice A0 nl c0) w (hG.quiet 9 9 50 _ rfl (by kernel_rfl) (by kernel_rfl))
    have HK := Lib.hid hfin
    clear hG hcl hdep hfr hK hfin hLi 
    go_simp
    exact HK.out
  | 10, ho =>
    simp only [opsKbk12, List.getElem?_toArray, List.getElem?_cons_succ, List.getElem?_cons_zero, Option.some.injEq] at ho
    subst ho
    have x50 : a.tmps[50]?.getD undef = .slice A0 nl c0 := by rw [← ev]; exact hG.val 9 9 50 _ rfl (hdep ⟨9, .data⟩ (by simp) rfl)
    have xg : a.tmps[47]?.getD undef = .bool true := by rw [← ev]; exact hG.val 6 6 47 _ rfl (hdep ⟨6, .guard⟩ (by simp) rfl)
    have hw := wanted_of (ops := opsKbk12) (a := a) (o := { dst := some 51, op := Op.call { callee := Callee.builtin Builtin.len, args := #[Operand.tmp 50], argTypes := #[31] }, type := 3, pos := "law.go:125", after := #[{ on := 9, ground := Ground.data }, { on := 6, ground := Ground.guard }], guard := some (6, true) }) (g := 6) (s := 47) (b := true) (b' := true) rfl rfl xg
    replace hw := hw.trans (show (true == true) = true from rfl)
    rw [if_pos hw]
    clear hw xg
    have hfin := hK (.int .i64 (nl : Int)) w (hG.quiet 10 10 51 _ rfl (by kernel_rfl) (by kernel_rfl))
    have HK := Lib.hid hfin
    clear hG hcl hdep hfr hK hfin hLi 
    go_simp
    exact HK.out
  | 11, ho =>
    simp only [opsKbk12, List.getElem?_toArray, List.getElem?_cons_succ, List.getElem?_cons_zero, Option.some.injEq] at ho
    subst ho
    have x49 : a.tmps[49]?.getD undef = .int .i64 (nl : Int) := by rw [← ev]; exact hG.val 8 8 49 _ rfl (hdep ⟨8, .data⟩ (by simp) rfl)
    have x51 : a.tmps[51]?.getD undef = .int .i64 (nl : Int) := by rw [← ev]; exact hG.val 10 10 51 _ rfl (hdep ⟨10, .data⟩ (by simp) rfl)
    have xg : a.tmps[47]?.getD undef = .bool true := by rw [← ev]; exact hG.val 6 6 47 _ rfl (hdep ⟨6, .guard⟩ (by simp) rfl)
    have hw := wanted_of (ops := opsKbk12) (a := a) (o := { dst := some 52, op := Op.binOp BinOp.eql 3 (Operand.tmp 49) (Operand.tmp 51) 3, type := 4, pos := "law.go:125", after := #[{ on := 8, ground := Ground.data }, { on := 10, ground := Ground.data }, { on := 6, ground := Ground.guard }], guard := some (6, true) }) (g := 6) (s := 47) (b := true) (b' := true) rfl rfl xg
    replace hw := hw.trans (show (true == true) = true from rfl)
    rw [if_pos hw]
    clear hw xg
    have hfin := hK (.bool true) w (hG.quiet 11 11 52 _ rfl (by kernel_rfl) (by kernel_rfl))
    have HK := Lib.hid hfin
    clear hG hcl hdep hfr hK hfin hLi 
    go_simp
    exact HK.out
  | 12, ho =>
    simp only [opsKbk12, List.getElem?_toArray, List.getElem?_cons_succ, List.getElem?_cons_zero, Option.some.injEq] at ho
    subst ho
    have x47 : a.tmps[47]?.getD undef = .bool true := by rw [← ev]; exact hG.val 6 6 47 _ rfl (hdep ⟨6, .data⟩ (by simp) rfl)
    have x52 : a.tmps[52]?.getD undef = .bool true := by rw [← ev]; exact hG.val 11 11 52 _ rfl (hdep ⟨11, .data⟩ (by simp) rfl)
    rw [if_pos (show Region.wanted _ _ = true from rfl)]
    have hfin := hK (.bool true) w (hG.quiet 12 12 53 _ rfl (by kernel_rfl) (by kernel_rfl))
    have HK := Lib.hid hfin
    clear hG hcl hdep hfr hK hfin hLi 
    go_simp
    exact HK.out
  | 13, ho =>
    simp only [opsKbk12, List.getElem?_toArray, List.getElem?_cons_succ, List.getElem?_cons_zero, Option.some.injEq] at ho
    subst ho
    have x53 : a.tmps[53]?.getD undef = .bool true := by rw [← ev]; exact hG.val 12 12 53 _ rfl (hdep ⟨12, .data⟩ (by simp) rfl)
    rw [if_pos (show Region.wanted _ _ = true from rfl)]
    have hfin := hK (.bool true) w (hG.quiet 13 13 54 _ rfl (by kernel_rfl) (by kernel_rfl))
    have HK := Lib.hid hfin
    clear hG hcl hdep hfr hK hfin hLi 
    go_simp
    exact HK.out
  | 14, ho =>
    simp only [opsKbk12, List.getElem?_toArray, List.getElem?_cons_succ, List.getElem?_cons_zero, Option.some.injEq] at ho
    subst ho
    have xg : a.tmps[54]?.getD undef = .bool true := by rw [← ev]; exact hG.val 13 13 54 _ rfl (hdep ⟨13, .guard⟩ (by simp) rfl)
    have hw := wanted_of (ops := opsKbk12) (a := a) (o := { dst := some 55, op := Op.move (Operand.tmp 6), type := 23, pos := "law.go:125", after := #[{ on := 13, ground := Ground.guard }], guard := some (13, true) }) (g := 13) (s := 54) (b := true) (b' := true) rfl rfl xg
    replace hw := hw.trans (show (true == true) = true from rfl)
    rw [if_pos hw]
    clear hw xg
    have hfin := hK (.pointer (some ⟨u, 0, none⟩)) w (hG.quiet 14 14 55 _ rfl (by kernel_rfl) (by kernel_rfl))
    have HK := Lib.hid hfin
    clear hG hcl hdep hfr hK hfin hLi 
    go_simp
    exact HK.out
  | 15, ho =>
    simp only [opsKbk12, List.getElem?_toArray, List.getElem?_cons_succ, List.getElem?_cons_zero, Option.some.injEq] at ho
    subst ho
    have x55 : a.tmps[55]?.getD undef = .pointer (some ⟨u, 0, none⟩) := by rw [← ev]; exact hG.val 14 14 55 _ rfl (hdep ⟨14, .data⟩ (by simp) rfl)
    have xg : a.tmps[54]?.getD undef = .bool true := by rw [← ev]; exact hG.val 13 13 54 _ rfl (hdep ⟨13, .chain⟩ (by simp) rfl)
    have hw := wanted_of (ops := opsKbk12) (a := a) (o := { dst := some 56, op := Op.call { callee := Callee.value (Operand.func 14), args := #[Operand.tmp 55], argTypes := #[23] }, type := 27, pos := "law.go:125", after := #[{ on := 14, ground := Ground.data }, { on := 13, ground := Ground.chain }, { on := 13, ground := Ground.guard }], guard := some (13, true) }) (g := 13) (s := 54) (b := true) (b' := true) rfl rfl xg
    replace hw := hw.trans (show (true == true) = true from rfl)
    rw [if_pos hw]
    clear hw xg
    have hSj := hG.at 0 (15, 56) rfl hLi (fun c h0 hc => absurd h0 (by decide))
    have hfin := fun v w' hs => hK v w' (hG.call 0 (15, 56) rfl hLi (fun c h0 hc => absurd h0 (by decide)) (by kernel_rfl) v w' hs)
    have HK := Lib.hid hfin
    generalize (resOf kbk12C fun t => a.eval (.tmp t)) = R at *
    clear hG hcl hdep hfr hK hfin hLi
    have hc := Lib.hid (hc0 _ _ hSj)
    clear hSj hcv hln hc0 hc1 hc2 hc3 hc4 hc5
    go_simp
    go_at_call 14
    refine hc.out.mono ?_
    rintro e w' ⟨v, rfl, hs⟩
    exact HK.out v w' hs
  | 16, ho =>
    simp only [opsKbk12, List.getElem?_toArray, List.getElem?_cons_succ, List.getElem?_cons_zero, Option.some.injEq] at ho
    subst ho
    have xg : a.tmps[54]?.getD undef = .bool true := by rw [← ev]; exact hG.val 13 13 54 _ rfl (hdep ⟨13, .guard⟩ (by simp) rfl)
    have hw := wanted_of (ops := opsKbk12) (a := a) (o := { dst := some 57, op := Op.convert 27 9 (Operand.tmp 56), type := 9, pos := "law.go:125", after := #[{ on := 15, ground := Ground.data }, { on := 13, ground := Ground.guard }], guard := some (13, true) }) (g := 13) (s := 54) (b := true) (b' := true) rfl rfl xg
    replace hw := hw.trans (show (true == true) = true from rfl)
    rw [if_pos hw]
    clear hw xg
    obtain ⟨ph, hSp, hdone⟩ := hG.any
    have hd56 : 0 < ph := hdone 0 (15, 56) rfl (hdep ⟨15, .data⟩ (by simp) rfl)
    have r56 : a.tmps[56]?.getD undef = resOf kbk12C (fun t => a.eval (.tmp t)) 0 := by rw [← ev]; exact (resOf_at (C := kbk12C) (j := 0) rfl a).symm
    have hfin := hK (.string bs) w (hG.quiet 15 16 57 _ rfl (by kernel_rfl) (by kernel_rfl))
    have HK := Lib.hid hfin
    generalize (resOf kbk12C fun t => a.eval (.tmp t)) = R at *
    obtain ⟨A2, c2, q1, q2⟩ := hcv _ _ _ hSp 0 hd56 (by decide) (by decide)
    rw [q1] at r56
    clear hcv hln hc0 hc1 hc2 hc3 hc4 hc5 q1 hd56
    clear hSp hdone
    clear hG hcl hdep hfr hK hfin hLi 
    go_simp
    exact HK.out
  | 17, ho =>
    simp only [opsKbk12, List.getElem?_toArray, List.getElem?_cons_succ, List.getElem?_cons_zero, Option.some.injEq] at ho
    subst ho
    have xg : a.tmps[54]?.getD undef = .bool true := by rw [← ev]; exact hG.val 13 13 54 _ rfl (hdep ⟨13, .guard⟩ (by simp) rfl)
    have hw := wanted_of (ops := opsKbk12) (a := a) (o := { dst := some 58, op := Op.move (Operand.tmp 3), type := 23, pos := "law.go:125", after := #[{ on := 13, ground := Ground.guard }], guard := some (13, true) }) (g := 13) (s := 54) (b := true) (b' := true) rfl rfl xg
    replace hw := hw.trans (show (true == true) = true from rfl)
    rw [if_pos hw]
    clear hw xg
    have hfin := hK (.pointer (some ⟨t, 0, none⟩)) w (hG.quiet 16 17 58 _ rfl (by kernel_rfl) (by kernel_rfl))
    have HK := Lib.hid hfin
    clear hG hcl hdep hfr hK hfin hLi 
    go_simp
    exact HK.out
  | 18, ho =>
    simp only [opsKbk12, List.getElem?_toArray, List.getElem?_cons_succ, List.getElem?_cons_zero, Option.some.injEq] at ho
    subst ho
    have x58 : a.tmps[58]?.getD undef = .pointer (some ⟨t, 0, none⟩) := by rw [← ev]; exact hG.val 16 17 58 _ rfl (hdep ⟨17, .data⟩ (by simp) rfl)
    have xg : a.tmps[54]?.getD undef = .bool true := by rw [← ev]; exact hG.val 13 13 54 _ rfl (hdep ⟨13, .guard⟩ (by simp) rfl)
    have hw := wanted_of (ops := opsKbk12) (a := a) (o := { dst := some 59, op := Op.call { callee := Callee.value (Operand.func 14), args := #[Operand.tmp 58], argTypes := #[23] }, type := 27, pos := "law.go:125", after := #[{ on := 17, ground := Ground.data }, { on := 15, ground := Ground.chain }, { on := 13, ground := Ground.guard }], guard := some (13, true) }) (g := 13) (s := 54) (b := true) (b' := true) rfl rfl xg
    replace hw := hw.trans (show (true == true) = true from rfl)
    rw [if_pos hw]
    clear hw xg
    have hSj := hG.at 1 (18, 59) rfl hLi (fun c h0 hc => by simp [kbk12C] at hc; subst hc; exact hdep ⟨15, .chain⟩ (by simp) rfl)
    have hfin := fun v w' hs => hK v w' (hG.call 1 (18, 59) rfl hLi (fun c h0 hc => by simp [kbk12C] at hc; subst hc; exact hdep ⟨15, .chain⟩ (by simp) rfl) (by kernel_rfl) v w' hs)
    have HK := Lib.hid hfin
    generalize (resOf kbk12C fun t => a.eval (.tmp t)) = R at *
    clear hG hcl hdep hfr hK hfin hLi
    have hc := Lib.hid (hc1 _ _ hSj)
    clear hSj hcv hln hc0 hc1 hc2 hc3 hc4 hc5
    go_simp
    go_at_call 14
    refine hc.out.mono ?_
    rintro e w' ⟨v, rfl, hs⟩
    exact HK.out v w' hs
  | 19, ho =>
    simp only [opsKbk12, List.getElem?_toArray, List.getElem?_cons_succ, List.getElem?_cons_zero, Option.some.injEq] at ho
    subst ho
    have xg : a.tmps[54]?.getD undef = .bool true := by rw [← ev]; exact hG.val 13 13 54 _ rfl (hdep ⟨13, .guard⟩ (by simp) rfl)
    have hw := wanted_of (ops := opsKbk12) (a := a) (o := { dst := some 60, op := Op.convert 27 9 (Operand.tmp 59), type := 9, pos := "law.go:125", after := #[{ on := 18, ground := Ground.data }, { on := 13, ground := Ground.guard }], guard := some (13, true) }) (g := 13) (s := 54) (b := true) (b' := true) rfl rfl xg
    replace hw := hw.trans (show (true == true) = true from rfl)
    rw [if_pos hw]
    clear hw xg
    obtain ⟨ph, hSp, hdone⟩ := hG.any
    have hd59 : 1 < ph := hdone 1 (18, 59) rfl (hdep ⟨18, .data⟩ (by simp) rfl)
    have r59 : a.tmps[59]?.getD undef = resOf kbk12C (fun t => a.eval (.tmp t)) 1 := by rw [← ev]; exact (resOf_at (C := kbk12C) (j := 1) rfl a).symm
    have hfin := hK (.string bs) w (hG.quiet 17 19 60 _ rfl (by kernel_rfl) (by kernel_rfl))
    have HK := Lib.hid hfin
    generalize (resOf kbk12C fun t => a.eval (.tmp t)) = R at *
    obtain ⟨A2, c2, q1, q2⟩ := hcv _ _ _ hSp 1 hd59 (by decide) (by decide)
    rw [q1] at r59
    clear hcv hln hc0 hc1 hc2 hc3 hc4 hc5 q1 hd59
    clear hSp hdone
    clear hG hcl hdep hfr hK hfin hLi 
    go_simp
    exact HK.out
  | 20, ho =>
    simp only [opsKbk12, List.getElem?_toArray, List.getElem?_cons_succ, List.getElem?_cons_zero, Option.some.injEq] at ho
    subst ho
    have x57 : a.tmps[57]?.getD undef = .string bs := by rw [← ev]; exact hG.val 15 16 57 _ rfl (hdep ⟨16, .data⟩ (by simp) rfl)
    have x60 : a.tmps[60]?.getD undef = .string bs := by rw [← ev]; exact hG.val 17 19 60 _ rfl (hdep ⟨19, .data⟩ (by simp) rfl)
    have xg : a.tmps[54]?.getD undef = .bool true := by rw [← ev]; exact hG.val 13 13 54 _ rfl (hdep ⟨13, .guard⟩ (by simp) rfl)
    have hw := wanted_of (ops := opsKbk12) (a := a) (o := { dst := some 61, op := Op.binOp BinOp.eql 9 (Operand.tmp 57) (Operand.tmp 60) 9, type := 4, pos := "law.go:125", after := #[{ on := 16, ground := Ground.data }, { on := 19, ground := Ground.data }, { on := 13, ground := Ground.guard }], guard := some (13, true) }) (g := 13) (s := 54) (b := true) (b' := true) rfl rfl xg
    replace hw := hw.trans (show (true == true) = true from rfl)
    rw [if_pos hw]
    clear hw xg
    have hfin := hK (.bool true) w (hG.quiet 18 20 61 _ rfl (by kernel_rfl) (by kernel_rfl))
    have HK := Lib.hid hfin
    clear hG hcl hdep hfr hK hfin hLi 
    go_simp
    exact HK.out
  | 21, ho =>
    simp only [opsKbk12, List.getElem?_toArray, List.getElem?_cons_succ, List.getElem?_cons_zero, Option.some.injEq] at ho
    subst ho
    have x54 : a.tmps[54]?.getD undef = .bool true := by rw [← ev]; exact hG.val 13 13 54 _ rfl (hdep ⟨13, .data⟩ (by simp) rfl)
    have x61 : a.tmps[61]?.getD undef = .bool true := by rw [← ev]; exact hG.val 18 20 61 _ rfl (hdep ⟨20, .data⟩ (by simp) rfl)
    rw [if_pos (show Region.wanted _ _ = true from rfl)]
    have hfin := hK (.bool true) w (hG.quiet 19 21 62 _ rfl (by kernel_rfl) (by kernel_rfl))
    have HK := Lib.hid hfin
    clear hG hcl hdep hfr hK hfin hLi 
    go_simp
    exact HK.out
  | 22, ho =>
    simp only [opsKbk12, List.getElem?_toArray, List.getElem?_cons_succ, List.getElem?_cons_zero, Option.some.injEq] at ho
    subst ho
    have x62 : a.tmps[62]?.getD undef = .bool true := by rw [← ev]; exact hG.val 19 21 62 _ rfl (hdep ⟨21, .data⟩ (by simp) rfl)
    rw [if_pos (show Region.wanted _ _ = true from rfl)]
    have hfin := hK (.bool true) w (hG.quiet 20 22 63 _ rfl (by kernel_rfl) (by kernel_rfl))
    have HK := Lib.hid hfin
    clear hG hcl hdep hfr hK hfin hLi 
    go_simp
    exact HK.out
  | 23, ho =>
    simp only [opsKbk12, List.getElem?_toArray, List.getElem?_cons_succ, List.getElem?_cons_zero, Option.some.injEq] at ho
    subst ho
    have xg : a.tmps[63]?.getD undef = .bool true := by rw [← ev]; exact hG.val 20 22 63 _ rfl (hdep ⟨22, .guard⟩ (by simp) rfl)
    have hw := wanted_of (ops := opsKbk12) (a := a) (o := { dst := some 64, op := Op.move (Operand.tmp 9), type := 25, pos := "law.go:125", after := #[{ on := 22, ground := Ground.guard }], guard := some (22, true) }) (g := 22) (s := 63) (b := true) (b' := true) rfl rfl xg
    replace hw := hw.trans (show (true == true) = true from rfl)
    rw [if_pos hw]
    clear hw xg
    have hfin := hK (.int .i64 0) w (hG.quiet 21 23 64 _ rfl (by kernel_rfl) (by kernel_rfl))
    have HK := Lib.hid hfin
    clear hG hcl hdep hfr hK hfin hLi 
    go_simp
    exact HK.out
  | 24, ho =>
    simp only [opsKbk12, List.getElem?_toArray, List.getElem?_cons_succ, List.getElem?_cons_zero, Option.some.injEq] at ho
    subst ho
    have x64 : a.tmps[64]?.getD undef = .int .i64 0 := by rw [← ev]; exact hG.val 21 23 64 _ rfl (hdep ⟨23, .data⟩ (by simp) rfl)
    have xg : a.tmps[63]?.getD undef = .bool true := by rw [← ev]; exact hG.val 20 22 63 _ rfl (hdep ⟨22, .guard⟩ (by simp) rfl)
    have hw := wanted_of (ops := opsKbk12) (a := a) (o := { dst := some 65, op := Op.binOp BinOp.eql 25 (Operand.tmp 64) (Operand.const (Value.int IntKind.i64 0)) 25, type := 4, pos := "law.go:125", after := #[{ on := 23, ground := Ground.data }, { on := 22, ground := Ground.guard }], guard := some (22, true) }) (g := 22) (s := 63) (b := true) (b' := true) rfl rfl xg
    replace hw := hw.trans (show (true == true) = true from rfl)
    rw [if_pos hw]
    clear hw xg
    have hfin := hK (.bool true) w (hG.quiet 22 24 65 _ rfl (by kernel_rfl) (by kernel_rfl))
    have HK := Lib.hid hfin
    clear hG hcl hdep hfr hK hfin hLi 
    go_simp
    exact HK.out
  | 25, ho =>
    simp only [opsKbk12, List.getElem?_toArray, List.getElem?_cons_succ, List.getElem?_cons_zero, Option.some.injEq] at ho
    subst ho
    have x63 : a.tmps[63]?.getD undef = .bool true := by rw [← ev]; exact hG.val 20 22 63 _ rfl (hdep ⟨22, .data⟩ (by simp) rfl)
    have x65 : a.tmps[65]?.getD undef = .bool true := by rw [← ev]; exact hG.val 22 24 65 _ rfl (hdep ⟨24, .data⟩ (by simp) rfl)
    rw [if_pos (show Region.wanted _ _ = true from rfl)]
    have hfin := hK (.bool true) w (hG.quiet 23 25 66 _ rfl (by kernel_rfl) (by kernel_rfl))
    have HK := Lib.hid hfin
    clear hG hcl hdep hfr hK hfin hLi 
    go_simp
    exact HK.out
  | 26, ho =>
    simp only [opsKbk12, List.getElem?_toArray, List.getElem?_cons_succ, List.getElem?_cons_zero, Option.some.injEq] at ho
    subst ho
    have x66 : a.tmps[66]?.getD undef = .bool true := by rw [← ev]; exact hG.val 23 25 66 _ rfl (hdep ⟨25, .data⟩ (by simp) rfl)
    rw [if_pos (show Region.wanted _ _ = true from rfl)]
    have hfin := hK (.bool true) w (hG.quiet 24 26 67 _ rfl (by kernel_rfl) (by kernel_rfl))
    have HK := Lib.hid hfin
    clear hG hcl hdep hfr hK hfin hLi 
    go_simp
    exact HK.out
  | 27, ho =>
    simp only [opsKbk12, List.getElem?_toArray, List.getElem?_cons_succ, List.getElem?_cons_zero, Option.some.injEq] at ho
    subst ho
    have xg : a.tmps[67]?.getD undef = .bool true := by rw [← ev]; exact hG.val 24 26 67 _ rfl (hdep ⟨26, .guard⟩ (by simp) rfl)
    have hw := wanted_of (ops := opsKbk12) (a := a) (o := { dst := some 68, op := Op.move (Operand.tmp 8), type := 23, pos := "law.go:125", after := #[{ on := 26, ground := Ground.guard }], guard := some (26, true) }) (g := 26) (s := 67) (b := true) (b' := true) rfl rfl xg
    replace hw := hw.trans (show (true == true) = true from rfl)
    rw [if_pos hw]
    clear hw xg
    have hfin := hK (.pointer (some ⟨x, 0, none⟩)) w (hG.quiet 25 27 68 _ rfl (by kernel_rfl) (by kernel_rfl))
    have HK := Lib.hid hfin
    clear hG hcl hdep hfr hK hfin hLi 
    go_simp
    exact HK.out
  | 28, ho =>
    simp only [opsKbk12, List.getElem?_toArray, List.getElem?_cons_succ, List.getElem?_cons_zero, Option.some.injEq] at ho
    subst ho
    have x68 : a.tmps[68]?.getD undef = .pointer (some ⟨x, 0, none⟩) := by rw [← ev]; exact hG.val 25 27 68 _ rfl (hdep ⟨27, .data⟩ (by simp) rfl)
    have xg : a.tmps[67]?.getD undef = .bool true := by rw [← ev]; exact hG.val 24 26 67 _ rfl (hdep ⟨26, .guard⟩ (by simp) rfl)
    have hw := wanted_of (ops := opsKbk12) (a := a) (o := { dst := some 69, op := Op.binOp BinOp.neq 23 (Operand.tmp 68) (Operand.const (Value.pointer none)) 23, type := 4, pos := "law.go:125", after := #[{ on := 27, ground := Ground.data }, { on := 26, ground := Ground.guard }], guard := some (26, true) }) (g := 26) (s := 67) (b := true) (b' := true) rfl rfl xg
    replace hw := hw.trans (show (true == true) = true from rfl)
    rw [if_pos hw]
    clear hw xg
    have hfin := hK (.bool true) w (hG.quiet 26 28 69 _ rfl (by kernel_rfl) (by kernel_rfl))
    have HK := Lib.hid hfin
    clear hG hcl hdep hfr hK hfin hLi 
    go_simp
    exact HK.out
  | 29, ho =>
    simp only [opsKbk12, List.getElem?_toArray, List.getElem?_cons_succ, List.getElem?_cons_zero, Option.some.injEq] at ho
    subst ho
    have x67 : a.tmps[67]?.getD undef = .bool true := by rw [← ev]; exact hG.val 24 26 67 _ rfl (hdep ⟨26, .data⟩ (by simp) rfl)
    have x69 : a.tmps[69]?.getD undef = .bool true := by rw [← ev]; exact hG.val 26 28 69 _ rfl (hdep ⟨28, .data⟩ (by simp) rfl)
    rw [if_pos (show Region.wanted _ _ = true from rfl)]
    have hfin := hK (.bool true) w (hG.quiet 27 29 70 _ rfl (by kernel_rfl) (by kernel_rfl))
    have HK := Lib.hid hfin
    clear hG hcl hdep hfr hK hfin hLi 
    go_simp
    exact HK.out
  | 30, ho =>
    simp only [opsKbk12, List.getElem?_toArray, List.getElem?_cons_succ, List.getElem?_cons_zero, Option.some.injEq] at ho
    subst ho
    have x70 : a.tmps[70]?.getD undef = .bool true := by rw [← ev]; exact hG.val 27 29 70 _ rfl (hdep ⟨29, .data⟩ (by simp) rfl)
    rw [if_pos (show Region.wanted _ _ = true from rfl)]
    have hfin := hK (.bool true) w (hG.quiet 28 30 71 _ rfl (by kernel_rfl) (by kernel_rfl))
    have HK := Lib.hid hfin
    clear hG hcl hdep hfr hK hfin hLi 
    go_simp
    exact HK.out
  | 31, ho =>
    simp only [opsKbk12, List.getElem?_toArray, List.getElem?_cons_succ, List.getElem?_cons_zero, Option.some.injEq] at ho
    subst ho
    have xg : a.tmps[71]?.getD undef = .bool true := by rw [← ev]; exact hG.val 28 30 71 _ rfl (hdep ⟨30, .guard⟩ (by simp) rfl)
    have hw := wanted_of (ops := opsKbk12) (a := a) (o := { dst := some 72, op := Op.move (Operand.tmp 8), type := 23, pos := "law.go:125", after := #[{ on := 30, ground := Ground.guard }], guard := some (30, true) }) (g := 30) (s := 71) (b := true) (b' := true) rfl rfl xg
    replace hw := hw.trans (show (true == true) = true from rfl)
    rw [if_pos hw]
    clear hw xg
    have hfin := hK (.pointer (some ⟨x, 0, none⟩)) w (hG.quiet 29 31 72 _ rfl (by kernel_rfl) (by kernel_rfl))
    have HK := Lib.hid hfin
    clear hG hcl hdep hfr hK hfin hLi 
    go_simp
    exact HK.out
  | 32, ho =>
    simp only [opsKbk12, List.getElem?_toArray, List.getElem?_cons_succ, List.getElem?_cons_zero, Option.some.injEq] at ho
    subst ho
    have x72 : a.tmps[72]?.getD undef = .pointer (some ⟨x, 0, none⟩) := by rw [← ev]; exact hG.val 29 31 72 _ rfl (hdep ⟨31, .data⟩ (by simp) rfl)
    have xg : a.tmps[71]?.getD undef = .bool true := by rw [← ev]; exact hG.val 28 30 71 _ rfl (hdep ⟨30, .chain⟩ (by simp) rfl)
    have hw := wanted_of (ops := opsKbk12) (a := a) (o := { dst := some 73, op := Op.call { callee := Callee.value (Operand.func 11), args := #[Operand.tmp 72], argTypes := #[23] }, type := 3, pos := "law.go:125", after := #[{ on := 31, ground := Ground.data }, { on := 30, ground := Ground.chain }, { on := 30, ground := Ground.guard }], guard := some (30, true) }) (g := 30) (s := 71) (b := true) (b' := true) rfl rfl xg
    replace hw := hw.trans (show (true == true) = true from rfl)
    rw [if_pos hw]
    clear hw xg
    have hSj := hG.at 2 (32, 73) rfl hLi (fun c h0 hc => by simp [kbk12C] at hc; subst hc; exact hcl 22 _ rfl (hcl 26 _ rfl (hcl 30 _ rfl (hdep ⟨30, .chain⟩ (by simp) rfl) ⟨26, .chain⟩ (by simp [opsKbk12]) rfl) ⟨22, .chain⟩ (by simp [opsKbk12]) rfl) ⟨18, .chain⟩ (by simp [opsKbk12]) rfl)
    have hfin := fun v w' hs => hK v w' (hG.call 2 (32, 73) rfl hLi (fun c h0 hc => by simp [kbk12C] at hc; subst hc; exact hcl 22 _ rfl (hcl 26 _ rfl (hcl 30 _ rfl (hdep ⟨30, .chain⟩ (by simp) rfl) ⟨26, .chain⟩ (by simp [opsKbk12]) rfl) ⟨22, .chain⟩ (by simp [opsKbk12]) rfl) ⟨18, .chain⟩ (by simp [opsKbk12]) rfl) (by kernel_rfl) v w' hs)
    have HK := Lib.hid hfin
    generalize (resOf kbk12C fun t => a.eval (.tmp t)) = R at *
    clear hG hcl hdep hfr hK hfin hLi
    have hc := Lib.hid (hc2 _ _ hSj)
    clear hSj hcv hln hc0 hc1 hc2 hc3 hc4 hc5
    go_simp
    go_at_call 11
    refine hc.out.mono ?_
    rintro e w' ⟨v, rfl, hs⟩
    exact HK.out v w' hs
  | 33, ho =>
    simp only [opsKbk12, List.getElem?_toArray, List.getElem?_cons_succ, List.getElem?_cons_zero, Option.some.injEq] at ho
    subst ho
    have xg : a.tmps[71]?.getD undef = .bool true := by rw [← ev]; exact hG.val 28 30 71 _ rfl (hdep ⟨30, .guard⟩ (by simp) rfl)
    have hw := wanted_of (ops := opsKbk12) (a := a) (o := { dst := some 74, op := Op.move (Operand.tmp 3), type := 23, pos := "law.go:125", after := #[{ on := 30, ground := Ground.guard }], guard := some (30, true) }) (g := 30) (s := 71) (b := true) (b' := true) rfl rfl xg
    replace hw := hw.trans (show (true == true) = true from rfl)
    rw [if_pos hw]
    clear hw xg
    have hfin := hK (.pointer (some ⟨t, 0, none⟩)) w (hG.quiet 30 33 74 _ rfl (by kernel_rfl) (by kernel_rfl))
    have HK := Lib.hid hfin
    clear hG hcl hdep hfr hK hfin hLi 
    go_simp
    exact HK.out
  | 34, ho =>
    simp only [opsKbk12, List.getElem?_toArray, List.getElem?_cons_succ, List.getElem?_cons_zero, Option.some.injEq] at ho
    subst ho
    have x74 : a.tmps[74]?.getD undef = .pointer (some ⟨t, 0, none⟩) := by rw [← ev]; exact hG.val 30 33 74 _ rfl (hdep ⟨33, .data⟩ (by simp) rfl)
    have xg : a.tmps[71]?.getD undef = .bool true := by rw [← ev]; exact hG.val 28 30 71 _ rfl (hdep ⟨30, .guard⟩ (by simp) rfl)
    have hw := wanted_of (ops := opsKbk12) (a := a) (o := { dst := some 75, op := Op.call { callee := Callee.value (Operand.func 11), args := #[Operand.tmp 74], argTypes := #[23] }, type := 3, pos := "law.go:125", after := #[{ on := 33, ground := Ground.data }, { on := 32, ground := Ground.chain }, { on := 30, ground := Ground.guard }], guard := some (30, true) }) (g := 30) (s := 71) (b := true) (b' := true) rfl rfl xg
    replace hw := hw.trans (show (true == true) = true from rfl)
    rw [if_pos hw]
    clear hw xg
    have hSj := hG.at 3 (34, 75) rfl hLi (fun c h0 hc => by simp [kbk12C] at hc; subst hc; exact hdep ⟨32, .chain⟩ (by simp) rfl)
    have hfin := fun v w' hs => hK v w' (hG.call 3 (34, 75) rfl hLi (fun c h0 hc => by simp [kbk12C] at hc; subst hc; exact hdep ⟨32, .chain⟩ (by simp) rfl) (by kernel_rfl) v w' hs)
    have HK := Lib.hid hfin
    generalize (resOf kbk12C fun t => a.eval (.tmp t)) = R at *
    clear hG hcl hdep hfr hK hfin hLi
    have hc := Lib.hid (hc3 _ _ hSj)
    clear hSj hcv hln hc0 hc1 hc2 hc3 hc4 hc5
    go_simp
    go_at_call 11
    refine hc.out.mono ?_
    rintro e w' ⟨v, rfl, hs⟩
    exact HK.out v w' hs
  | 35, ho =>
    simp only [opsKbk12, List.getElem?_toArray, List.getElem?_cons_succ, List.getElem?_cons_zero, Option.some.injEq] at ho
    subst ho
    have xg : a.tmps[71]?.getD undef = .bool true := by rw [← ev]; exact hG.val 28 30 71 _ rfl (hdep ⟨30, .guard⟩ (by simp) rfl)
    have hw := wanted_of (ops := opsKbk12) (a := a) (o := { dst := some 76, op := Op.binOp BinOp.eql 3 (Operand.tmp 73) (Operand.tmp 75) 3, type := 4, pos := "law.go:125", after := #[{ on := 32, ground := Ground.data }, { on := 34, ground := Ground.data }, { on := 30, ground := Ground.guard }], guard := some (30, true) }) (g := 30) (s := 71) (b := true) (b' := true) rfl rfl xg
    replace hw := hw.trans (show (true == true) = true from rfl)
    rw [if_pos hw]
    clear hw xg
    obtain ⟨ph, hSp, hdone⟩ := hG.any
    have hd73 : 2 < ph := hdone 2 (32, 73) rfl (hdep ⟨32, .data⟩ (by simp) rfl)
    have r73 : a.tmps[73]?.getD undef = resOf kbk12C (fun t => a.eval (.tmp t)) 2 := by rw [← ev]; exact (resOf_at (C := kbk12C) (j := 2) rfl a).symm
    have hd75 : 3 < ph := hdone 3 (34, 75) rfl (hdep ⟨34, .data⟩ (by simp) rfl)
    have r75 : a.tmps[75]?.getD undef = resOf kbk12C (fun t => a.eval (.tmp t)) 3 := by rw [← ev]; exact (resOf_at (C := kbk12C) (j := 3) rfl a).symm
    have hfin := hK (.bool true) w (hG.quiet 31 35 76 _ rfl (by kernel_rfl) (by kernel_rfl))
    have HK := Lib.hid hfin
    generalize (resOf kbk12C fun t => a.eval (.tmp t)) = R at *
    rw [hln _ _ _ hSp 2 hd73 (by decide)] at r73
    rw [hln _ _ _ hSp 3 hd75 (by decide)] at r75
    clear hcv hln hc0 hc1 hc2 hc3 hc4 hc5 hd73 hd75
    clear hSp hdone
    clear hG hcl hdep hfr hK hfin hLi 
    go_simp
    exact HK.out
  | 36, ho =>
    simp only [opsKbk12, List.getElem?_toArray, List.getElem?_cons_succ, List.getElem?_cons_zero, Option.some.injEq] at ho
    subst ho
    have x71 : a.tmps[71]?.getD undef = .bool true := by rw [← ev]; exact hG.val 28 30 71 _ rfl (hdep ⟨30, .data⟩ (by simp) rfl)
    have x76 : a.tmps[76]?.getD undef = .bool true := by rw [← ev]; exact hG.val 31 35 76 _ rfl (hdep ⟨35, .data⟩ (by simp) rfl)
    rw [if_pos (show Region.wanted _ _ = true from rfl)]
    have hfin := hK (.bool true) w (hG.quiet 32 36 77 _ rfl (by kernel_rfl) (by kernel_rfl))
    have HK := Lib.hid hfin
    clear hG hcl hdep hfr hK hfin hLi 
    go_simp
    exact HK.out
  | 37, ho =>
    simp only [opsKbk12, List.getElem?_toArray, List.getElem?_cons_succ, List.getElem?_cons_zero, Option.some.injEq] at ho
    subst ho
    have x77 : a.tmps[77]?.getD undef = .bool true := by rw [← ev]; exact hG.val 32 36 77 _ rfl (hdep ⟨36, .data⟩ (by simp) rfl)
    rw [if_pos (show Region.wanted _ _ = true from rfl)]
    have hfin := hK (.bool true) w (hG.quiet 33 37 78 _ rfl (by kernel_rfl) (by kernel_rfl))
    have HK := Lib.hid hfin
    clear hG hcl hdep hfr hK hfin hLi 
    go_simp
    exact HK.out
  | 38, ho =>
    simp only [opsKbk12, List.getElem?_toArray, List.getElem?_cons_succ, List.getElem?_cons_zero, Option.some.injEq] at ho
    subst ho
    have xg : a.tmps[78]?.getD undef = .bool true := by rw [← ev]; exact hG.val 33 37 78 _ rfl (hdep ⟨37, .guard⟩ (by simp) rfl)
    have hw := wanted_of (ops := opsKbk12) (a := a) (o := { dst := some 79, op := Op.move (Operand.tmp 8), type := 23, pos := "law.go:125", after := #[{ on := 37, ground := Ground.guard }], guard := some (37, true) }) (g := 37) (s := 78) (b := true) (b' := true) rfl rfl xg
    replace hw := hw.trans (show (true == true) = true from rfl)
    rw [if_pos hw]
    clear hw xg
    have hfin := hK (.pointer (some ⟨x, 0, none⟩)) w (hG.quiet 34 38 79 _ rfl (by kernel_rfl) (by kernel_rfl))
    have HK := Lib.hid hfin
    clear hG hcl hdep hfr hK hfin hLi 
    go_simp
    exact HK.out
  | 39, ho =>
    simp only [opsKbk12, List.getElem?_toArray, List.getElem?_cons_succ, List.getElem?_cons_zero, Option.some.injEq] at ho
    subst ho
    have x79 : a.tmps[79]?.getD undef = .pointer (some ⟨x, 0, none⟩) := by rw [← ev]; exact hG.val 34 38 79 _ rfl (hdep ⟨38, .data⟩ (by simp) rfl)
    have xg : a.tmps[78]?.getD undef = .bool true := by rw [← ev]; exact hG.val 33 37 78 _ rfl (hdep ⟨37, .chain⟩ (by simp) rfl)
    have hw := wanted_of (ops := opsKbk12) (a := a) (o := { dst := some 80, op := Op.call { callee := Callee.value (Operand.func 14), args := #[Operand.tmp 79], argTypes := #[23] }, type := 27, pos := "law.go:125", after := #[{ on := 38, ground := Ground.data }, { on := 37, ground := Ground.chain }, { on := 37, ground := Ground.guard }], guard := some (37, true) }) (g := 37) (s := 78) (b := true) (b' := true) rfl rfl xg
    replace hw := hw.trans (show (true == true) = true from rfl)
    rw [if_pos hw]
    clear hw xg
    have hSj := hG.at 4 (39, 80) rfl hLi (fun c h0 hc => by simp [kbk12C] at hc; subst hc; exact hcl 37 _ rfl (hdep ⟨37, .chain⟩ (by simp) rfl) ⟨34, .chain⟩ (by simp [opsKbk12]) rfl)
    have hfin := fun v w' hs => hK v w' (hG.call 4 (39, 80) rfl hLi (fun c h0 hc => by simp [kbk12C] at hc; subst hc; exact hcl 37 _ rfl (hdep ⟨37, .chain⟩ (by simp) rfl) ⟨34, .chain⟩ (by simp [opsKbk12]) rfl) (by kernel_rfl) v w' hs)
    have HK := Lib.hid hfin
    generalize (resOf kbk12C fun t => a.eval (.tmp t)) = R at *
    clear hG hcl hdep hfr hK hfin hLi
    have hc := Lib.hid (hc4 _ _ hSj)
    clear hSj hcv hln hc0 hc1 hc2 hc3 hc4 hc5
    go_simp
    go_at_call 14
    refine hc.out.mono ?_
    rintro e w' ⟨v, rfl, hs⟩
    exact HK.out v w' hs
  | 40, ho =>
    simp only [opsKbk12, List.getElem?_toArray, List.getElem?_cons_succ, List.getElem?_cons_zero, Option.some.injEq] at ho
    subst ho
    have xg : a.tmps[78]?.getD undef = .bool true := by rw [← ev]; exact hG.val 33 37 78 _ rfl (hdep ⟨37, .guard⟩ (by simp) rfl)
    have hw := wanted_of (ops := opsKbk12) (a := a) (o := { dst := some 81, op := Op.convert 27 9 (Operand.tmp 80), type := 9, pos := "law.go:125", after := #[{ on := 39, ground := Ground.data }, { on := 37, ground := Ground.guard }], guard := some (37, true) }) (g := 37) (s := 78) (b := true) (b' := true) rfl rfl xg
    replace hw := hw.trans (show (true == true) = true from rfl)
    rw [if_pos hw]
    clear hw xg
    obtain ⟨ph, hSp, hdone⟩ := hG.any
    have hd80 : 4 < ph := hdone 4 (39, 80) rfl (hdep ⟨39, .data⟩ (by simp) rfl)
    have r80 : a.tmps[80]?.getD undef = resOf kbk12C (fun t => a.eval (.tmp t)) 4 := by rw [← ev]; exact (resOf_at (C := kbk12C) (j := 4) rfl a).symm
    have hfin := hK (.string bs) w (hG.quiet 35 40 81 _ rfl (by kernel_rfl) (by kernel_rfl))
    have HK := Lib.hid hfin
    generalize (resOf kbk12C fun t => a.eval (.tmp t)) = R at *
    obtain ⟨A2, c2, q1, q2⟩ := hcv _ _ _ hSp 4 hd80 (by decide) (by decide)
    rw [q1] at r80
    clear hcv hln hc0 hc1 hc2 hc3 hc4 hc5 q1 hd80
    clear hSp hdone
    clear hG hcl hdep hfr hK hfin hLi 
    go_simp
    exact HK.out
  | 41, ho =>
    simp only [opsKbk12, List.getElem?_toArray, List.getElem?_cons_succ, List.getElem?_cons_zero, Option.some.injEq] at ho
    subst ho
    have xg : a.tmps[78]?.getD undef = .bool true := by rw [← ev]; exact hG.val 33 37 78 _ rfl (hdep ⟨37, .guard⟩ (by simp) rfl)
    have hw := wanted_of (ops := opsKbk12) (a := a) (o := { dst := some 82, op := Op.move (Operand.tmp 3), type := 23, pos := "law.go:125", after := #[{ on := 37, ground := Ground.guard }], guard := some (37, true) }) (g := 37) (s := 78) (b := true) (b' := true) rfl rfl xg
    replace hw := hw.trans (show (true == true) = true from rfl)
    rw [if_pos hw]
    clear hw xg
    have hfin := hK (.pointer (some ⟨t, 0, none⟩)) w (hG.quiet 36 41 82 _ rfl (by kernel_rfl) (by kernel_rfl))
    have HK := Lib.hid hfin
    clear hG hcl hdep hfr hK hfin hLi 
    go_simp
    exact HK.out
  | 42, ho =>
    simp only [opsKbk12, List.getElem?_toArray, List.getElem?_cons_succ, List.getElem?_cons_zero, Option.some.injEq] at ho
    subst ho
    have x82 : a.tmps[82]?.getD undef = .pointer (some ⟨t, 0, none⟩) := by rw [← ev]; exact hG.val 36 41 82 _ rfl (hdep ⟨41, .data⟩ (by simp) rfl)
    have xg : a.tmps[78]?.getD undef = .bool true := by rw [← ev]; exact hG.val 33 37 78 _ rfl (hdep ⟨37, .guard⟩ (by simp) rfl)
    have hw := wanted_of (ops := opsKbk12) (a := a) (o := { dst := some 83, op := Op.call { callee := Callee.value (Operand.func 14), args := #[Operand.tmp 82], argTypes := #[23] }, type := 27, pos := "law.go:125", after := #[{ on := 41, ground := Ground.data }, { on := 39, ground := Ground.chain }, { on := 37, ground := Ground.guard }], guard := some (37, true) }) (g := 37) (s := 78) (b := true) (b' := true) rfl rfl xg
    replace hw := hw.trans (show (true == true) = true from rfl)
    rw [if_pos hw]
    clear hw xg
    have hSj := hG.at 5 (42, 83) rfl hLi (fun c h0 hc => by simp [kbk12C] at hc; subst hc; exact hdep ⟨39, .chain⟩ (by simp) rfl)
    have hfin := fun v w' hs => hK v w' (hG.call 5 (42, 83) rfl hLi (fun c h0 hc => by simp [kbk12C] at hc; subst hc; exact hdep ⟨39, .chain⟩ (by simp) rfl) (by kernel_rfl) v w' hs)
    have HK := Lib.hid hfin
    generalize (resOf kbk12C fun t => a.eval (.tmp t)) = R at *
    clear hG hcl hdep hfr hK hfin hLi
    have hc := Lib.hid (hc5 _ _ hSj)
    clear hSj hcv hln hc0 hc1 hc2 hc3 hc4 hc5
    go_simp
    go_at_call 14
    refine hc.out.mono ?_
    rintro e w' ⟨v, rfl, hs⟩
    exact HK.out v w' hs
  | 43, ho =>
    simp only [opsKbk12, List.getElem?_toArray, List.getElem?_cons_succ, List.getElem?_cons_zero, Option.some.injEq] at ho
    subst ho
    have xg : a.tmps[78]?.getD undef = .bool true := by rw [← ev]; exact hG.val 33 37 78 _ rfl (hdep ⟨37, .guard⟩ (by simp) rfl)
    have hw := wanted_of (ops := opsKbk12) (a := a) (o := { dst := some 84, op := Op.convert 27 9 (Operand.tmp 83), type := 9, pos := "law.go:125", after := #[{ on := 42, ground := Ground.data }, { on := 37, ground := Ground.guard }], guard := some (37, true) }) (g := 37) (s := 78) (b := true) (b' := true) rfl rfl xg
    replace hw := hw.trans (show (true == true) = true from rfl)
    rw [if_pos hw]
    clear hw xg
    obtain ⟨ph, hSp, hdone⟩ := hG.any
    have hd83 : 5 < ph := hdone 5 (42, 83) rfl (hdep ⟨42, .data⟩ (by simp) rfl)
    have r83 : a.tmps[83]?.getD undef = resOf kbk12C (fun t => a.eval (.tmp t)) 5 := by rw [← ev]; exact (resOf_at (C := kbk12C) (j := 5) rfl a).symm
    have hfin := hK (.string bs) w (hG.quiet 37 43 84 _ rfl (by kernel_rfl) (by kernel_rfl))
    have HK := Lib.hid hfin
    generalize (resOf kbk12C fun t => a.eval (.tmp t)) = R at *
    obtain ⟨A2, c2, q1, q2⟩ := hcv _ _ _ hSp 5 hd83 (by decide) (by decide)
    rw [q1] at r83
    clear hcv hln hc0 hc1 hc2 hc3 hc4 hc5 q1 hd83
    clear hSp hdone
    clear hG hcl hdep hfr hK hfin hLi 
    go_simp
    exact HK.out
  | 44, ho =>
    simp only [opsKbk12, List.getElem?_toArray, List.getElem?_cons_succ, List.getElem?_cons_zero, Option.some.injEq] at ho
    subst ho
    have x81 : a.tmps[81]?.getD undef = .string bs := by rw [← ev]; exact hG.val 35 40 81 _ rfl (hdep ⟨40, .data⟩ (by simp) rfl)
    have x84 : a.tmps[84]?.getD undef = .string bs := by rw [← ev]; exact hG.val 37 43 84 _ rfl (hdep ⟨43, .data⟩ (by simp) rfl)
    have xg : a.tmps[78]?.getD undef = .bool true := by rw [← ev]; exact hG.val 33 37 78 _ rfl (hdep ⟨37, .guard⟩ (by simp) rfl)
    have hw := wanted_of (ops := opsKbk12) (a := a) (o := { dst := some 85, op := Op.binOp BinOp.eql 9 (Operand.tmp 81) (Operand.tmp 84) 9, type := 4, pos := "law.go:125", after := #[{ on := 40, ground := Ground.data }, { on := 43, ground := Ground.data }, { on := 37, ground := Ground.guard }], guard := some (37, true) }) (g := 37) (s := 78) (b := true) (b' := true) rfl rfl xg
    replace hw := hw.trans (show (true == true) = true from rfl)
    rw [if_pos hw]
    clear hw xg
    have hfin := hK (.bool true) w (hG.quiet 38 44 85 _ rfl (by kernel_rfl) (by kernel_rfl))
    have HK := Lib.hid hfin
    clear hG hcl hdep hfr hK hfin hLi 
    go_simp
    exact HK.out
  | 45, ho =>
    simp only [opsKbk12, List.getElem?_toArray, List.getElem?_cons_succ, List.getElem?_cons_zero, Option.some.injEq] at ho
    subst ho
    have x78 : a.tmps[78]?.getD undef = .bool true := by rw [← ev]; exact hG.val 33 37 78 _ rfl (hdep ⟨37, .data⟩ (by simp) rfl)
    have x85 : a.tmps[85]?.getD undef = .bool true := by rw [← ev]; exact hG.val 38 44 85 _ rfl (hdep ⟨44, .data⟩ (by simp) rfl)
    rw [if_pos (show Region.wanted _ _ = true from rfl)]
    have hfin := hK (.bool true) w (hG.quiet 39 45 86 _ rfl (by kernel_rfl) (by kernel_rfl))
    have HK := Lib.hid hfin
    clear hG hcl hdep hfr hK hfin hLi 
    go_simp
    exact HK.out
  | 46, ho =>
    simp only [opsKbk12, List.getElem?_toArray, List.getElem?_cons_succ, List.getElem?_cons_zero, Option.some.injEq] at ho
    subst ho
    have x86 : a.tmps[86]?.getD undef = .bool true := by rw [← ev]; exact hG.val 39 45 86 _ rfl (hdep ⟨45, .data⟩ (by simp) rfl)
    rw [if_pos (show Region.wanted _ _ = true from rfl)]
    have hfin := hK (.bool true) w (hG.quiet 40 46 2 _ rfl (by kernel_rfl) (by kernel_rfl))
    have HK := Lib.hid hfin
    clear hG hcl hdep hfr hK hfin hLi 
    go_simp
    exact HK.out
  | n + 47, ho => exact absurd (Array.getElem?_eq_some_iff.1 ho).1 (by show ¬ n + 47 < 47; omega)
end Go.Proofs.Ytpmgnmknjmnecaa
