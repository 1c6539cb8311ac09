/- WalKeeps: what both logs tell. -/
import Derived.Test.YtambddncncaehaaDoorVals
import Derived.Test.YtambddncncaehaaDoorAppend
import Derived.WalkKit
import Derived.WalkSpells
import Derived.WalkLawsBesides
import Derived.Lib.Hide
namespace Go.Proofs.YtambddncncaehaaDoor
open Go.RowKit
set_option linter.unusedVariables false
set_option maxRecDepth 100000
set_option linter.unusedSimpArgs false

def opsKe28 : Array Oper := #[
  { dst := some 103, op := Op.move (Operand.tmp 15), type := 24, pos := "more.go:43", after := #[], guard := none },
  { dst := some 104, op := Op.binOp BinOp.eql 24 (Operand.tmp 103) (Operand.const (Value.int IntKind.i64 0)) 24, type := 4, pos := "more.go:43", after := #[{ on := 0, ground := Ground.data }], guard := none },
  { dst := some 105, op := Op.move (Operand.tmp 104), type := 4, pos := "more.go:43", after := #[{ on := 1, ground := Ground.data }], guard := none },
  { dst := some 106, op := Op.move (Operand.tmp 14), type := 27, pos := "more.go:43", after := #[{ on := 2, ground := Ground.guard }], guard := some (2, true) },
  { dst := some 107, op := Op.binOp BinOp.neq 27 (Operand.tmp 106) (Operand.const (Value.pointer none)) 27, type := 4, pos := "more.go:43", after := #[{ on := 3, ground := Ground.data }, { on := 2, ground := Ground.guard }], guard := some (2, true) },
  { dst := some 108, op := Op.pick (Operand.tmp 105) (Operand.tmp 107) (Operand.const (Value.bool false)), type := 4, pos := "more.go:43", after := #[{ on := 2, ground := Ground.data }, { on := 4, ground := Ground.data }], guard := none },
  { dst := some 109, op := Op.move (Operand.tmp 108), type := 4, pos := "more.go:43", after := #[{ on := 5, ground := Ground.data }, { on := 2, ground := Ground.chain }], guard := none },
  { dst := some 110, op := Op.move (Operand.tmp 14), type := 27, pos := "more.go:43", after := #[{ on := 6, ground := Ground.guard }], guard := some (6, true) },
  { dst := some 111, op := Op.call { callee := Callee.value (Operand.func 18), args := #[Operand.tmp 110], argTypes := #[27] }, type := 31, pos := "more.go:43", after := #[{ on := 7, ground := Ground.data }, { on := 6, ground := Ground.chain }, { on := 6, ground := Ground.guard }], guard := some (6, true) },
  { dst := some 112, op := Op.convert 31 9 (Operand.tmp 111), type := 9, pos := "more.go:43", after := #[{ on := 8, ground := Ground.data }, { on := 6, ground := Ground.guard }], guard := some (6, true) },
  { dst := some 113, op := Op.move (Operand.tmp 1), type := 31, pos := "more.go:43", after := #[{ on := 6, ground := Ground.guard }], guard := some (6, true) },
  { dst := some 114, op := Op.convert 31 9 (Operand.tmp 113), type := 9, pos := "more.go:43", after := #[{ on := 10, ground := Ground.data }, { on := 6, ground := Ground.guard }], guard := some (6, true) },
  { dst := some 115, op := Op.binOp BinOp.eql 9 (Operand.tmp 112) (Operand.tmp 114) 9, type := 4, pos := "more.go:43", after := #[{ on := 9, ground := Ground.data }, { on := 11, ground := Ground.data }, { on := 6, ground := Ground.guard }], guard := some (6, true) },
  { dst := some 116, op := Op.pick (Operand.tmp 109) (Operand.tmp 115) (Operand.const (Value.bool false)), type := 4, pos := "more.go:43", after := #[{ on := 6, ground := Ground.data }, { on := 12, ground := Ground.data }], guard := none },
  { dst := some 117, op := Op.move (Operand.tmp 116), type := 4, pos := "more.go:43", after := #[{ on := 13, ground := Ground.data }, { on := 8, ground := Ground.chain }], guard := none },
  { dst := some 118, op := Op.move (Operand.tmp 14), type := 27, pos := "more.go:43", after := #[{ on := 14, ground := Ground.guard }], guard := some (14, true) },
  { dst := some 119, op := Op.call { callee := Callee.value (Operand.func 14), args := #[Operand.tmp 118], argTypes := #[27] }, type := 33, pos := "more.go:43", after := #[{ on := 15, ground := Ground.data }, { on := 14, ground := Ground.chain }, { on := 14, ground := Ground.guard }], guard := some (14, true) },
  { dst := some 120, op := Op.move (Operand.tmp 12), type := 37, pos := "more.go:43", after := #[{ on := 14, ground := Ground.guard }], guard := some (14, true) },
  { dst := some 121, op := Op.call { callee := Callee.value (Operand.func 13), args := #[Operand.tmp 119, Operand.tmp 120], argTypes := #[33, 37] }, type := 4, pos := "more.go:43", after := #[{ on := 16, ground := Ground.data }, { on := 17, ground := Ground.data }, { on := 16, ground := Ground.chain }, { on := 14, ground := Ground.guard }], guard := some (14, true) },
  { dst := some 122, op := Op.pick (Operand.tmp 117) (Operand.tmp 121) (Operand.const (Value.bool false)), type := 4, pos := "more.go:43", after := #[{ on := 14, ground := Ground.data }, { on := 18, ground := Ground.data }], guard := none },
  { dst := some 123, op := Op.move (Operand.tmp 122), type := 4, pos := "more.go:43", after := #[{ on := 19, ground := Ground.data }, { on := 18, ground := Ground.chain }], guard := none },
  { dst := some 124, op := Op.move (Operand.tmp 9), type := 27, pos := "more.go:43", after := #[{ on := 20, ground := Ground.guard }], guard := some (20, true) },
  { dst := some 125, op := Op.call { callee := Callee.value (Operand.func 18), args := #[Operand.tmp 124], argTypes := #[27] }, type := 31, pos := "more.go:43", after := #[{ on := 21, ground := Ground.data }, { on := 20, ground := Ground.chain }, { on := 20, ground := Ground.guard }], guard := some (20, true) },
  { dst := some 126, op := Op.convert 31 9 (Operand.tmp 125), type := 9, pos := "more.go:43", after := #[{ on := 22, ground := Ground.data }, { on := 20, ground := Ground.guard }], guard := some (20, true) },
  { dst := some 127, op := Op.move (Operand.tmp 1), type := 31, pos := "more.go:43", after := #[{ on := 20, ground := Ground.guard }], guard := some (20, true) },
  { dst := some 128, op := Op.convert 31 9 (Operand.tmp 127), type := 9, pos := "more.go:43", after := #[{ on := 24, ground := Ground.data }, { on := 20, ground := Ground.guard }], guard := some (20, true) },
  { dst := some 129, op := Op.binOp BinOp.eql 9 (Operand.tmp 126) (Operand.tmp 128) 9, type := 4, pos := "more.go:43", after := #[{ on := 23, ground := Ground.data }, { on := 25, ground := Ground.data }, { on := 20, ground := Ground.guard }], guard := some (20, true) },
  { dst := some 130, op := Op.pick (Operand.tmp 123) (Operand.tmp 129) (Operand.const (Value.bool false)), type := 4, pos := "more.go:43", after := #[{ on := 20, ground := Ground.data }, { on := 26, ground := Ground.data }], guard := none },
  { dst := some 131, op := Op.move (Operand.tmp 130), type := 4, pos := "more.go:43", after := #[{ on := 27, ground := Ground.data }, { on := 22, ground := Ground.chain }], guard := none },
  { dst := some 132, op := Op.move (Operand.tmp 9), type := 27, pos := "more.go:43", after := #[{ on := 28, ground := Ground.guard }], guard := some (28, true) },
  { dst := some 133, op := Op.call { callee := Callee.value (Operand.func 14), args := #[Operand.tmp 132], argTypes := #[27] }, type := 33, pos := "more.go:43", after := #[{ on := 29, ground := Ground.data }, { on := 28, ground := Ground.chain }, { on := 28, ground := Ground.guard }], guard := some (28, true) },
  { dst := some 134, op := Op.move (Operand.tmp 12), type := 37, pos := "more.go:43", after := #[{ on := 28, ground := Ground.guard }], guard := some (28, true) },
  { dst := some 135, op := Op.call { callee := Callee.value (Operand.func 13), args := #[Operand.tmp 133, Operand.tmp 134], argTypes := #[33, 37] }, type := 4, pos := "more.go:43", after := #[{ on := 30, ground := Ground.data }, { on := 31, ground := Ground.data }, { on := 30, ground := Ground.chain }, { on := 28, ground := Ground.guard }], guard := some (28, true) },
  { dst := some 136, op := Op.pick (Operand.tmp 131) (Operand.tmp 135) (Operand.const (Value.bool false)), type := 4, pos := "more.go:43", after := #[{ on := 28, ground := Ground.data }, { on := 32, ground := Ground.data }], guard := none },
  { dst := some 6, op := Op.assign (Operand.tmp 136), type := 4, pos := "more.go:43", after := #[{ on := 33, ground := Ground.data }, { on := 32, ground := Ground.chain }, { on := 0, ground := Ground.phase }, { on := 1, ground := Ground.phase }, { on := 2, ground := Ground.phase }, { on := 3, ground := Ground.phase }, { on := 4, ground := Ground.phase }, { on := 5, ground := Ground.phase }, { on := 6, ground := Ground.phase }, { on := 7, ground := Ground.phase }, { on := 8, ground := Ground.phase }, { on := 9, ground := Ground.phase }, { on := 10, ground := Ground.phase }, { on := 11, ground := Ground.phase }, { on := 12, ground := Ground.phase }, { on := 13, ground := Ground.phase }, { on := 14, ground := Ground.phase }, { on := 15, ground := Ground.phase }, { on := 16, ground := Ground.phase }, { on := 17, ground := Ground.phase }, { on := 18, ground := Ground.phase }, { on := 19, ground := Ground.phase }, { on := 20, ground := Ground.phase }, { on := 21, ground := Ground.phase }, { on := 22, ground := Ground.phase }, { on := 23, ground := Ground.phase }, { on := 24, ground := Ground.phase }, { on := 25, ground := Ground.phase }, { on := 26, ground := Ground.phase }, { on := 27, ground := Ground.phase }, { on := 28, ground := Ground.phase }, { on := 29, ground := Ground.phase }, { on := 30, ground := Ground.phase }, { on := 31, ground := Ground.phase }, { on := 32, ground := Ground.phase }, { on := 33, ground := Ground.phase }], guard := none }]

def ke28Vals (m l nb cb nw cw : Nat) (Ab Aw : Option Addr) (bs : ByteArray) : List (Nat × Nat × Value) := [(0, 103, .int .i64 0), (1, 104, .bool true), (2, 105, .bool true), (3, 106, .pointer (some ⟨m, 0, none⟩)), (4, 107, .bool true), (5, 108, .bool true), (6, 109, .bool true), (7, 110, .pointer (some ⟨m, 0, none⟩)), (9, 112, .string bs), (10, 113, .slice Ab nb cb), (11, 114, .string bs), (12, 115, .bool true), (13, 116, .bool true), (14, 117, .bool true), (15, 118, .pointer (some ⟨m, 0, none⟩)), (17, 120, .slice Aw nw cw), (19, 122, .bool true), (20, 123, .bool true), (21, 124, .pointer (some ⟨l, 0, none⟩)), (23, 126, .string bs), (24, 127, .slice Ab nb cb), (25, 128, .string bs), (26, 129, .bool true), (27, 130, .bool true), (28, 131, .bool true), (29, 132, .pointer (some ⟨l, 0, none⟩)), (31, 134, .slice Aw nw cw), (33, 136, .bool true), (34, 6, .bool true)]
def ke28C : List (Nat × Nat) := [(8, 111), (16, 119), (18, 121), (22, 125), (30, 133), (32, 135)]

set_option maxHeartbeats 4000000 in
set_option maxRecDepth 100000 in
theorem ke28 {Q : Exit → Act → World → Prop} {a0 : Act} {wp : World} (m l nb cb nw cw : Nat) (Ab Aw : Option Addr) (bs : ByteArray) (S : Nat → (Nat → Value) → World → Prop)
    (hsz : 136 < a0.tmps.size) (in1 : a0.eval (.tmp 1) = .slice Ab nb cb) (in9 : a0.eval (.tmp 9) = .pointer (some ⟨l, 0, none⟩)) (in12 : a0.eval (.tmp 12) = .slice Aw nw cw) (in14 : a0.eval (.tmp 14) = .pointer (some ⟨m, 0, none⟩)) (in15 : a0.eval (.tmp 15) = .int .i64 0)
    (hcb : ∀ p R w, S p R w → (convert 31 9 (.slice Ab nb cb)).run Tryd.prog w = .ok (.string bs) w) (hcv : ∀ p R w, S p R w → ∀ k, k = 0 ∨ k = 3 → k < p → ∃ A c, R k = .slice A nb c ∧ (convert 31 9 (.slice A nb c)).run Tryd.prog w = .ok (.string bs) w) (hrt : ∀ p R w, S p R w → ∀ k, k = 2 ∨ k = 5 → k < p → R k = .bool true)
    (hc0 : ∀ R w, S 0 R w → Calls Tryd.prog 18 #[.pointer (some ⟨m, 0, none⟩)] w fun e w' => ∃ v, e = .returned v ∧ S 1 (setR R 0 v) w')
    (hc1 : ∀ R w, S 1 R w → Calls Tryd.prog 14 #[.pointer (some ⟨m, 0, none⟩)] w fun e w' => ∃ v, e = .returned v ∧ S 2 (setR R 1 v) w')
    (hc2 : ∀ R w, S 2 R w → Calls Tryd.prog 13 #[R 1, .slice Aw nw cw] w fun e w' => ∃ v, e = .returned v ∧ S 3 (setR R 2 v) w')
    (hc3 : ∀ R w, S 3 R w → Calls Tryd.prog 18 #[.pointer (some ⟨l, 0, none⟩)] w fun e w' => ∃ v, e = .returned v ∧ S 4 (setR R 3 v) w')
    (hc4 : ∀ R w, S 4 R w → Calls Tryd.prog 14 #[.pointer (some ⟨l, 0, none⟩)] w fun e w' => ∃ v, e = .returned v ∧ S 5 (setR R 4 v) w')
    (hc5 : ∀ R w, S 5 R w → Calls Tryd.prog 13 #[R 4, .slice Aw nw cw] w fun e w' => ∃ v, e = .returned v ∧ S 6 (setR R 5 v) w')
    (hS : S 0 (resOf ke28C fun t => a0.eval (.tmp t)) wp.drew)
    (fin : ∀ a w, Fr [103, 104, 105, 106, 107, 108, 109, 110, 111, 112, 113, 114, 115, 116, 117, 118, 119, 120, 121, 122, 123, 124, 125, 126, 127, 128, 129, 130, 131, 132, 133, 134, 135, 136, 6] a0 a → a.eval (.tmp 6) = .bool true → S 6 (resOf ke28C fun t => a.eval (.tmp t)) w → Q .normal a w) :
    (Code.region 28 opsKe28 true).wp Tryd.prog Q a0 wp := by
  refine region_inv (by kernel_rfl) [103, 104, 105, 106, 107, 108, 109, 110, 111, 112, 113, 114, 115, 116, 117, 118, 119, 120, 121, 122, 123, 124, 125, 126, 127, 128, 129, 130, 131, 132, 133, 134, 135, 136, 6] (by kernel_rfl) (by kernel_rfl) (fun t ht => by simp at ht; omega) (GV (ke28Vals m l nb cb nw cw Ab Aw bs) ke28C S) (.start hS) ?_
    (fun L a w hf hall hG => fin a w hf (hG.val 28 34 6 _ rfl (hall 34 (by decide))) (hG.fin (fun c hc => by simp [ke28C] at hc; rcases hc with rfl | rfl | rfl | rfl | rfl | rfl <;> exact hall _ (by decide))))
  clear hS fin
  intro ix oo ho L a w hfr hG hLi hdep hcl K hK
  have e1 : a.tmps[1]?.getD undef = .slice Ab nb cb := by rw [← ev]; exact (hfr.same 1 (by decide)).trans in1
  have e9 : a.tmps[9]?.getD undef = .pointer (some ⟨l, 0, none⟩) := by rw [← ev]; exact (hfr.same 9 (by decide)).trans in9
  have e12 : a.tmps[12]?.getD undef = .slice Aw nw cw := by rw [← ev]; exact (hfr.same 12 (by decide)).trans in12
  have e14 : a.tmps[14]?.getD undef = .pointer (some ⟨m, 0, none⟩) := by rw [← ev]; exact (hfr.same 14 (by decide)).trans in14
  have e15 : a.tmps[15]?.getD undef = .int .i64 0 := by rw [← ev]; exact (hfr.same 15 (by decide)).trans in15
  clear in1 in9 in12 in14 in15
  match ix, ho with
  | 0, ho =>
    simp only [opsKe28, List.getElem?_toArray, List.getElem?_cons_zero, Option.some.injEq] at ho
    subst ho
    rw [if_pos (show Region.wanted _ _ = true from rfl)]
    have hfin := hK (.int .i64 0) w (hG.quiet 0 0 103 _ rfl (by kernel_rfl) (by kernel_rfl))
    have HK := Lib.hid hfin
    clear hG hcl hdep hfr hK hfin hLi 
    go_simp
    exact HK.out
  | 1, ho =>
    simp only [opsKe28, List.getElem?_toArray, List.getElem?_cons_succ, List.getElem?_cons_zero, Option.some.injEq] at ho
    subst ho
    have x103 : a.tmps[103]?.getD undef = .int .i64 0 := by rw [← ev]; exact hG.val 0 0 103 _ rfl (hdep ⟨0, .data⟩ (by simp) rfl)
    rw [if_pos (show Region.wanted _ _ = true from rfl)]
    have hfin := hK (.bool true) w (hG.quiet 1 1 104 _ rfl (by kernel_rfl) (by kernel_rfl))
    have HK := Lib.hid hfin
    clear hG hcl hdep hfr hK hfin hLi 
    go_simp
    exact HK.out
  | 2, ho =>
    simp only [opsKe28, List.getElem?_toArray, List.getElem?_cons_succ, List.getElem?_cons_zero, Option.some.injEq] at ho
    subst ho
    have x104 : a.tmps[104]?.getD undef = .bool true := by rw [← ev]; exact hG.val 1 1 104 _ rfl (hdep ⟨1, .data⟩ (by simp) rfl)
    rw [if_pos (show Region.wanted _ _ = true from rfl)]
    have hfin := hK (.bool true) w (hG.quiet 2 2 105 _ rfl (by kernel_rfl) (by kernel_rfl))
    have HK := Lib.hid hfin
    clear hG hcl hdep hfr hK hfin hLi 
    go_simp
    exact HK.out
  | 3, ho =>
    simp only [opsKe28, List.getElem?_toArray, List.getElem?_cons_succ, List.getElem?_cons_zero, Option.some.injEq] at ho
    subst ho
    have xg : a.tmps[105]?.getD undef = .bool true := by rw [← ev]; exact hG.val 2 2 105 _ rfl (hdep ⟨2, .guard⟩ (by simp) rfl)
    have hw := wanted_of (ops := opsKe28) (a := a) (o := { dst := some 106, op := Op.move (Operand.tmp 14), type := 27, pos := "more.go:43", after := #[{ on := 2, ground := Ground.guard }], guard := some (2, true) }) (g := 2) (s := 105) (b := true) (b' := true) rfl rfl xg
    replace hw := hw.trans (show (true == true) = true from rfl)
    rw [if_pos hw]
    clear hw xg
    have hfin := hK (.pointer (some ⟨m, 0, none⟩)) w (hG.quiet 3 3 106 _ rfl (by kernel_rfl) (by kernel_rfl))
    have HK := Lib.hid hfin
    clear hG hcl hdep hfr hK hfin hLi 
    go_simp
    exact HK.out
  | 4, ho =>
    simp only [opsKe28, List.getElem?_toArray, List.getElem?_cons_succ, List.getElem?_cons_zero, Option.some.injEq] at ho
    subst ho
    have x106 : a.tmps[106]?.getD undef = .pointer (some ⟨m, 0, none⟩) := by rw [← ev]; exact hG.val 3 3 106 _ rfl (hdep ⟨3, .data⟩ (by simp) rfl)
    have xg : a.tmps[105]?.getD undef = .bool true := by rw [← ev]; exact hG.val 2 2 105 _ rfl (hdep ⟨2, .guard⟩ (by simp) rfl)
    have hw := wanted_of (ops := opsKe28) (a := a) (o := { dst := some 107, op := Op.binOp BinOp.neq 27 (Operand.tmp 106) (Operand.const (Value.pointer none)) 27, type := 4, pos := "more.go:43", after := #[{ on := 3, ground := Ground.data }, { on := 2, ground := Ground.guard }], guard := some (2, true) }) (g := 2) (s := 105) (b := true) (b' := true) rfl rfl xg
    replace hw := hw.trans (show (true == true) = true from rfl)
    rw [if_pos hw]
    clear hw xg
    have hfin := hK (.bool true) w (hG.quiet 4 4 107 _ rfl (by kernel_rfl) (by kernel_rfl))
    have HK := Lib.hid hfin
    clear hG hcl hdep hfr hK hfin hLi 
    go_simp
    exact HK.out
  | 5, ho =>
    simp only [opsKe28, List.getElem?_toArray, List.getElem?_cons_succ, List.getElem?_cons_zero, Option.some.injEq] at ho
    subst ho
    have x105 : a.tmps[105]?.getD undef = .bool true := by rw [← ev]; exact hG.val 2 2 105 _ rfl (hdep ⟨2, .data⟩ (by simp) rfl)
    have x107 : a.tmps[107]?.getD undef = .bool true := by rw [← ev]; exact hG.val 4 4 107 _ rfl (hdep ⟨4, .data⟩ (by simp) rfl)
    rw [if_pos (show Region.wanted _ _ = true from rfl)]
    have hfin := hK (.bool true) w (hG.quiet 5 5 108 _ rfl (by kernel_rfl) (by kernel_rfl))
    have HK := Lib.hid hfin
    clear hG hcl hdep hfr hK hfin hLi 
    go_simp
    exact HK.out
  | 6, ho =>
    simp only [opsKe28, List.getElem?_toArray, List.getElem?_cons_succ, List.getElem?_cons_zero, Option.some.injEq] at ho
    subst ho
    have x108 : a.tmps[108]?.getD undef = .bool true := by rw [← ev]; exact hG.val 5 5 108 _ rfl (hdep ⟨5, .data⟩ (by simp) rfl)
    rw [if_pos (show Region.wanted _ _ = true from rfl)]
    have hfin := hK (.bool true) w (hG.quiet 6 6 109 _ rfl (by kernel_rfl) (by kernel_rfl))
    have HK := Lib.hid hfin
    clear hG hcl hdep hfr hK hfin hLi 
    go_simp
    exact HK.out
  | 7, ho =>
    simp only [opsKe28, List.getElem?_toArray, List.getElem?_cons_succ, List.getElem?_cons_zero, Option.some.injEq] at ho
    subst ho
    have xg : a.tmps[109]?.getD undef = .bool true := by rw [← ev]; exact hG.val 6 6 109 _ rfl (hdep ⟨6, .guard⟩ (by simp) rfl)
    have hw := wanted_of (ops := opsKe28) (a := a) (o := { dst := some 110, op := Op.move (Operand.tmp 14), type := 27, pos := "more.go:43", after := #[{ on := 6, ground := Ground.guard }], guard := some (6, true) }) (g := 6) (s := 109) (b := true) (b' := true) rfl rfl xg
    replace hw := hw.trans (show (true == true) = true from rfl)
    rw [if_pos hw]
    clear hw xg
    have hfin := hK (.pointer (some ⟨m, 0, none⟩)) w (hG.quiet 7 7 110 _ rfl (by kernel_rfl) (by kernel_rfl))
    have HK := Lib.hid hfin
    clear hG hcl hdep hfr hK hfin hLi 
    go_simp
    exact HK.out
  | 8, ho =>
    simp only [opsKe28, List.getElem?_toArray, List.getElem?_cons_succ, List.getElem?_cons_zero, Option.some.injEq] at ho
    subst ho
    have x110 : a.tmps[110]?.getD undef = .pointer (some ⟨m, 0, none⟩) := by rw [← ev]; exact hG.val 7 7 110 _ rfl (hdep ⟨7, .data⟩ (by simp) rfl)
    have xg : a.tmps[109]?.getD undef = .bool true := by rw [← ev]; exact hG.val 6 6 109 _ rfl (hdep ⟨6, .chain⟩ (by simp) rfl)
    have hw := wanted_of (ops := opsKe28) (a := a) (o := { dst := some 111, op := Op.call { callee := Callee.value (Operand.func 18), args := #[Operand.tmp 110], argTypes := #[27] }, type := 31, pos := "more.go:43", after := #[{ on := 7, ground := Ground.data }, { on := 6, ground := Ground.chain }, { on := 6, ground := Ground.guard }], guard := some (6, true) }) (g := 6) (s := 109) (b := true) (b' := true) rfl rfl xg
    replace hw := hw.trans (show (true == true) = true from rfl)
    rw [if_pos hw]
    clear hw xg
    have hSj := hG.at 0 (8, 111) rfl hLi (fun c h0 hc => absurd h0 (by decide))
    have hfin := fun v w' hs => hK v w' (hG.call 0 (8, 111) rfl hLi (fun c h0 hc => absurd h0 (by decide)) (by kernel_rfl) v w' hs)
    have HK := Lib.hid hfin
    generalize (resOf ke28C fun t => a.eval (.tmp t)) = R at *
    clear hG hcl hdep hfr hK hfin hLi
    have hc := Lib.hid (hc0 _ _ hSj)
    clear hSj hcb hcv hrt hc0 hc1 hc2 hc3 hc4 hc5
    go_simp
    go_at_call 18
    refine hc.out.mono ?_
    rintro e w' ⟨v, rfl, hs⟩
    exact HK.out v w' hs
  | 9, ho =>
    simp only [opsKe28, List.getElem?_toArray, List.getElem?_cons_succ, List.getElem?_cons_zero, Option.some.injEq] at ho
    subst ho
    have xg : a.tmps[109]?.getD undef = .bool true := by rw [← ev]; exact hG.val 6 6 109 _ rfl (hdep ⟨6, .guard⟩ (by simp) rfl)
    have hw := wanted_of (ops := opsKe28) (a := a) (o := { dst := some 112, op := Op.convert 31 9 (Operand.tmp 111), type := 9, pos := "more.go:43", after := #[{ on := 8, ground := Ground.data }, { on := 6, ground := Ground.guard }], guard := some (6, true) }) (g := 6) (s := 109) (b := true) (b' := true) rfl rfl xg
    replace hw := hw.trans (show (true == true) = true from rfl)
    rw [if_pos hw]
    clear hw xg
    obtain ⟨ph, hSp, hdone⟩ := hG.any
    have hd111 : 0 < ph := hdone 0 (8, 111) rfl (hdep ⟨8, .data⟩ (by simp) rfl)
    have r111 : a.tmps[111]?.getD undef = resOf ke28C (fun t => a.eval (.tmp t)) 0 := by rw [← ev]; exact (resOf_at (C := ke28C) (j := 0) rfl a).symm
    have hfin := hK (.string bs) w (hG.quiet 8 9 112 _ rfl (by kernel_rfl) (by kernel_rfl))
    have HK := Lib.hid hfin
    generalize (resOf ke28C fun t => a.eval (.tmp t)) = R at *
    obtain ⟨A2, c2, q1, q2⟩ := hcv _ _ _ hSp 0 (by decide) hd111
    rw [q1] at r111
    clear hcb hcv hrt hc0 hc1 hc2 hc3 hc4 hc5 q1 hd111
    clear hSp hdone
    clear hG hcl hdep hfr hK hfin hLi 
    go_simp
    exact HK.out
  | 10, ho =>
    simp only [opsKe28, List.getElem?_toArray, List.getElem?_cons_succ, List.getElem?_cons_zero, Option.some.injEq] at ho
    subst ho
    have xg : a.tmps[109]?.getD undef = .bool true := by rw [← ev]; exact hG.val 6 6 109 _ rfl (hdep ⟨6, .guard⟩ (by simp) rfl)
    have hw := wanted_of (ops := opsKe28) (a := a) (o := { dst := some 113, op := Op.move (Operand.tmp 1), type := 31, pos := "more.go:43", after := #[{ on := 6, ground := Ground.guard }], guard := some (6, true) }) (g := 6) (s := 109) (b := true) (b' := true) rfl rfl xg
    replace hw := hw.trans (show (true == true) = true from rfl)
    rw [if_pos hw]
    clear hw xg
    have hfin := hK (.slice Ab nb cb) w (hG.quiet 9 10 113 _ rfl (by kernel_rfl) (by kernel_rfl))
    have HK := Lib.hid hfin
    clear hG hcl hdep hfr hK hfin hLi 
    go_simp
    exact HK.out
  | 11, ho =>
    simp only [opsKe28, List.getElem?_toArray, List.getElem?_cons_succ, List.getElem?_cons_zero, Option.some.injEq] at ho
    subst ho
    have x113 : a.tmps[113]?.getD undef = .slice Ab nb cb := by rw [← ev]; exact hG.val 9 10 113 _ rfl (hdep ⟨10, .data⟩ (by simp) rfl)
    have xg : a.tmps[109]?.getD undef = .bool true := by rw [← ev]; exact hG.val 6 6 109 _ rfl (hdep ⟨6, .guard⟩ (by simp) rfl)
    have hw := wanted_of (ops := opsKe28) (a := a) (o := { dst := some 114, op := Op.convert 31 9 (Operand.tmp 113), type := 9, pos := "more.go:43", after := #[{ on := 10, ground := Ground.data }, { on := 6, ground := Ground.guard }], guard := some (6, true) }) (g := 6) (s := 109) (b := true) (b' := true) rfl rfl xg
    replace hw := hw.trans (show (true == true) = true from rfl)
    rw [if_pos hw]
    clear hw xg
    obtain ⟨ph, hSp, hdone⟩ := hG.any
    have hfin := hK (.string bs) w (hG.quiet 10 11 114 _ rfl (by kernel_rfl) (by kernel_rfl))
    have HK := Lib.hid hfin
    generalize (resOf ke28C fun t => a.eval (.tmp t)) = R at *
    have q2 := hcb _ _ _ hSp
    clear hcb hcv hrt hc0 hc1 hc2 hc3 hc4 hc5
    clear hSp hdone
    clear hG hcl hdep hfr hK hfin hLi 
    go_simp
    exact HK.out
  | 12, ho =>
    simp only [opsKe28, List.getElem?_toArray, List.getElem?_cons_succ, List.getElem?_cons_zero, Option.some.injEq] at ho
    subst ho
    have x112 : a.tmps[112]?.getD undef = .string bs := by rw [← ev]; exact hG.val 8 9 112 _ rfl (hdep ⟨9, .data⟩ (by simp) rfl)
    have x114 : a.tmps[114]?.getD undef = .string bs := by rw [← ev]; exact hG.val 10 11 114 _ rfl (hdep ⟨11, .data⟩ (by simp) rfl)
    have xg : a.tmps[109]?.getD undef = .bool true := by rw [← ev]; exact hG.val 6 6 109 _ rfl (hdep ⟨6, .guard⟩ (by simp) rfl)
    have hw := wanted_of (ops := opsKe28) (a := a) (o := { dst := some 115, op := Op.binOp BinOp.eql 9 (Operand.tmp 112) (Operand.tmp 114) 9, type := 4, pos := "more.go:43", after := #[{ on := 9, ground := Ground.data }, { on := 11, ground := Ground.data }, { on := 6, ground := Ground.guard }], guard := some (6, true) }) (g := 6) (s := 109) (b := true) (b' := true) rfl rfl xg
    replace hw := hw.trans (show (true == true) = true from rfl)
    rw [if_pos hw]
    clear hw xg
    have hfin := hK (.bool true) w (hG.quiet 11 12 115 _ rfl (by kernel_rfl) (by kernel_rfl))
    have HK := Lib.hid hfin
    clear hG hcl hdep hfr hK hfin hLi 
    go_simp
    exact HK.out
  | 13, ho =>
    simp only [opsKe28, List.getElem?_toArray, List.getElem?_cons_succ, List.getElem?_cons_zero, Option.some.injEq] at ho
    subst ho
    have x109 : a.tmps[109]?.getD undef = .bool true := by rw [← ev]; exact hG.val 6 6 109 _ rfl (hdep ⟨6, .data⟩ (by simp) rfl)
    have x115 : a.tmps[115]?.getD undef = .bool true := by rw [← ev]; exact hG.val 11 12 115 _ rfl (hdep ⟨12, .data⟩ (by simp) rfl)
    rw [if_pos (show Region.wanted _ _ = true from rfl)]
    have hfin := hK (.bool true) w (hG.quiet 12 13 116 _ rfl (by kernel_rfl) (by kernel_rfl))
    have HK := Lib.hid hfin
    clear hG hcl hdep hfr hK hfin hLi 
    go_simp
    exact HK.out
  | 14, ho =>
    simp only [opsKe28, List.getElem?_toArray, List.getElem?_cons_succ, List.getElem?_cons_zero, Option.some.injEq] at ho
    subst ho
    have x116 : a.tmps[116]?.getD undef = .bool true := by rw [← ev]; exact hG.val 12 13 116 _ rfl (hdep ⟨13, .data⟩ (by simp) rfl)
    rw [if_pos (show Region.wanted _ _ = true from rfl)]
    have hfin := hK (.bool true) w (hG.quiet 13 14 117 _ rfl (by kernel_rfl) (by kernel_rfl))
    have HK := Lib.hid hfin
    clear hG hcl hdep hfr hK hfin hLi 
    go_simp
    exact HK.out
  | 15, ho =>
    simp only [opsKe28, List.getElem?_toArray, List.getElem?_cons_succ, List.getElem?_cons_zero, Option.some.injEq] at ho
    subst ho
    have xg : a.tmps[117]?.getD undef = .bool true := by rw [← ev]; exact hG.val 13 14 117 _ rfl (hdep ⟨14, .guard⟩ (by simp) rfl)
    have hw := wanted_of (ops := opsKe28) (a := a) (o := { dst := some 118, op := Op.move (Operand.tmp 14), type := 27, pos := "more.go:43", after := #[{ on := 14, ground := Ground.guard }], guard := some (14, true) }) (g := 14) (s := 117) (b := true) (b' := true) rfl rfl xg
    replace hw := hw.trans (show (true == true) = true from rfl)
    rw [if_pos hw]
    clear hw xg
    have hfin := hK (.pointer (some ⟨m, 0, none⟩)) w (hG.quiet 14 15 118 _ rfl (by kernel_rfl) (by kernel_rfl))
    have HK := Lib.hid hfin
    clear hG hcl hdep hfr hK hfin hLi 
    go_simp
    exact HK.out
  | 16, ho =>
    simp only [opsKe28, List.getElem?_toArray, List.getElem?_cons_succ, List.getElem?_cons_zero, Option.some.injEq] at ho
    subst ho
    have x118 : a.tmps[118]?.getD undef = .pointer (some ⟨m, 0, none⟩) := by rw [← ev]; exact hG.val 14 15 118 _ rfl (hdep ⟨15, .data⟩ (by simp) rfl)
    have xg : a.tmps[117]?.getD undef = .bool true := by rw [← ev]; exact hG.val 13 14 117 _ rfl (hdep ⟨14, .chain⟩ (by simp) rfl)
    have hw := wanted_of (ops := opsKe28) (a := a) (o := { dst := some 119, op := Op.call { callee := Callee.value (Operand.func 14), args := #[Operand.tmp 118], argTypes := #[27] }, type := 33, pos := "more.go:43", after := #[{ on := 15, ground := Ground.data }, { on := 14, ground := Ground.chain }, { on := 14, ground := Ground.guard }], guard := some (14, true) }) (g := 14) (s := 117) (b := true) (b' := true) rfl rfl xg
    replace hw := hw.trans (show (true == true) = true from rfl)
    rw [if_pos hw]
    clear hw xg
    have hSj := hG.at 1 (16, 119) rfl hLi (fun c h0 hc => by simp [ke28C] at hc; subst hc; exact hcl 14 _ rfl (hdep ⟨14, .chain⟩ (by simp) rfl) ⟨8, .chain⟩ (by simp [opsKe28]) rfl)
    have hfin := fun v w' hs => hK v w' (hG.call 1 (16, 119) rfl hLi (fun c h0 hc => by simp [ke28C] at hc; subst hc; exact hcl 14 _ rfl (hdep ⟨14, .chain⟩ (by simp) rfl) ⟨8, .chain⟩ (by simp [opsKe28]) rfl) (by kernel_rfl) v w' hs)
    have HK := Lib.hid hfin
    generalize (resOf ke28C fun t => a.eval (.tmp t)) = R at *
    clear hG hcl hdep hfr hK hfin hLi
    have hc := Lib.hid (hc1 _ _ hSj)
    clear hSj hcb hcv hrt hc0 hc1 hc2 hc3 hc4 hc5
    go_simp
    go_at_call 14
    refine hc.out.mono ?_
    rintro e w' ⟨v, rfl, hs⟩
    exact HK.out v w' hs
  | 17, ho =>
    simp only [opsKe28, List.getElem?_toArray, List.getElem?_cons_succ, List.getElem?_cons_zero, Option.some.injEq] at ho
    subst ho
    have xg : a.tmps[117]?.getD undef = .bool true := by rw [← ev]; exact hG.val 13 14 117 _ rfl (hdep ⟨14, .guard⟩ (by simp) rfl)
    have hw := wanted_of (ops := opsKe28) (a := a) (o := { dst := some 120, op := Op.move (Operand.tmp 12), type := 37, pos := "more.go:43", after := #[{ on := 14, ground := Ground.guard }], guard := some (14, true) }) (g := 14) (s := 117) (b := true) (b' := true) rfl rfl xg
    replace hw := hw.trans (show (true == true) = true from rfl)
    rw [if_pos hw]
    clear hw xg
    have hfin := hK (.slice Aw nw cw) w (hG.quiet 15 17 120 _ rfl (by kernel_rfl) (by kernel_rfl))
    have HK := Lib.hid hfin
    clear hG hcl hdep hfr hK hfin hLi 
    go_simp
    exact HK.out
  | 18, ho =>
    simp only [opsKe28, List.getElem?_toArray, List.getElem?_cons_succ, List.getElem?_cons_zero, Option.some.injEq] at ho
    subst ho
    have x120 : a.tmps[120]?.getD undef = .slice Aw nw cw := by rw [← ev]; exact hG.val 15 17 120 _ rfl (hdep ⟨17, .data⟩ (by simp) rfl)
    have xg : a.tmps[117]?.getD undef = .bool true := by rw [← ev]; exact hG.val 13 14 117 _ rfl (hdep ⟨14, .guard⟩ (by simp) rfl)
    have hw := wanted_of (ops := opsKe28) (a := a) (o := { dst := some 121, op := Op.call { callee := Callee.value (Operand.func 13), args := #[Operand.tmp 119, Operand.tmp 120], argTypes := #[33, 37] }, type := 4, pos := "more.go:43", after := #[{ on := 16, ground := Ground.data }, { on := 17, ground := Ground.data }, { on := 16, ground := Ground.chain }, { on := 14, ground := Ground.guard }], guard := some (14, true) }) (g := 14) (s := 117) (b := true) (b' := true) rfl rfl xg
    replace hw := hw.trans (show (true == true) = true from rfl)
    rw [if_pos hw]
    clear hw xg
    have hSj := hG.at 2 (18, 121) rfl hLi (fun c h0 hc => by simp [ke28C] at hc; subst hc; exact hdep ⟨16, .data⟩ (by simp) rfl)
    have r119 : a.tmps[119]?.getD undef = resOf ke28C (fun t => a.eval (.tmp t)) 1 := by rw [← ev]; exact (resOf_at (C := ke28C) (j := 1) rfl a).symm
    have hfin := fun v w' hs => hK v w' (hG.call 2 (18, 121) rfl hLi (fun c h0 hc => by simp [ke28C] at hc; subst hc; exact hdep ⟨16, .data⟩ (by simp) rfl) (by kernel_rfl) v w' hs)
    have HK := Lib.hid hfin
    generalize (resOf ke28C fun t => a.eval (.tmp t)) = R at *
    clear hG hcl hdep hfr hK hfin hLi
    have hc := Lib.hid (hc2 _ _ hSj)
    clear hSj hcb hcv hrt hc0 hc1 hc2 hc3 hc4 hc5
    go_simp
    go_at_call 13
    refine hc.out.mono ?_
    rintro e w' ⟨v, rfl, hs⟩
    exact HK.out v w' hs
  | 19, ho =>
    simp only [opsKe28, List.getElem?_toArray, List.getElem?_cons_succ, List.getElem?_cons_zero, Option.some.injEq] at ho
    subst ho
    have x117 : a.tmps[117]?.getD undef = .bool true := by rw [← ev]; exact hG.val 13 14 117 _ rfl (hdep ⟨14, .data⟩ (by simp) rfl)
    rw [if_pos (show Region.wanted _ _ = true from rfl)]
    obtain ⟨ph, hSp, hdone⟩ := hG.any
    have hd121 : 2 < ph := hdone 2 (18, 121) rfl (hdep ⟨18, .data⟩ (by simp) rfl)
    have r121 : a.tmps[121]?.getD undef = resOf ke28C (fun t => a.eval (.tmp t)) 2 := by rw [← ev]; exact (resOf_at (C := ke28C) (j := 2) rfl a).symm
    have hfin := hK (.bool true) w (hG.quiet 16 19 122 _ rfl (by kernel_rfl) (by kernel_rfl))
    have HK := Lib.hid hfin
    generalize (resOf ke28C fun t => a.eval (.tmp t)) = R at *
    have q1 := hrt _ _ _ hSp 2 (by decide) hd121
    rw [q1] at r121
    clear hcb hcv hrt hc0 hc1 hc2 hc3 hc4 hc5 q1 hd121
    clear hSp hdone
    clear hG hcl hdep hfr hK hfin hLi 
    go_simp
    exact HK.out
  | 20, ho =>
    simp only [opsKe28, List.getElem?_toArray, List.getElem?_cons_succ, List.getElem?_cons_zero, Option.some.injEq] at ho
    subst ho
    have x122 : a.tmps[122]?.getD undef = .bool true := by rw [← ev]; exact hG.val 16 19 122 _ rfl (hdep ⟨19, .data⟩ (by simp) rfl)
    rw [if_pos (show Region.wanted _ _ = true from rfl)]
    have hfin := hK (.bool true) w (hG.quiet 17 20 123 _ rfl (by kernel_rfl) (by kernel_rfl))
    have HK := Lib.hid hfin
    clear hG hcl hdep hfr hK hfin hLi 
    go_simp
    exact HK.out
  | 21, ho =>
    simp only [opsKe28, List.getElem?_toArray, List.getElem?_cons_succ, List.getElem?_cons_zero, Option.some.injEq] at ho
    subst ho
    have xg : a.tmps[123]?.getD undef = .bool true := by rw [← ev]; exact hG.val 17 20 123 _ rfl (hdep ⟨20, .guard⟩ (by simp) rfl)
    have hw := wanted_of (ops := opsKe28) (a := a) (o := { dst := some 124, op := Op.move (Operand.tmp 9), type := 27, pos := "more.go:43", after := #[{ on := 20, ground := Ground.guard }], guard := some (20, true) }) (g := 20) (s := 123) (b := true) (b' := true) rfl rfl xg
    replace hw := hw.trans (show (true == true) = true from rfl)
    rw [if_pos hw]
    clear hw xg
    have hfin := hK (.pointer (some ⟨l, 0, none⟩)) w (hG.quiet 18 21 124 _ rfl (by kernel_rfl) (by kernel_rfl))
    have HK := Lib.hid hfin
    clear hG hcl hdep hfr hK hfin hLi 
    go_simp
    exact HK.out
  | 22, ho =>
    simp only [opsKe28, List.getElem?_toArray, List.getElem?_cons_succ, List.getElem?_cons_zero, Option.some.injEq] at ho
    subst ho
    have x124 : a.tmps[124]?.getD undef = .pointer (some ⟨l, 0, none⟩) := by rw [← ev]; exact hG.val 18 21 124 _ rfl (hdep ⟨21, .data⟩ (by simp) rfl)
    have xg : a.tmps[123]?.getD undef = .bool true := by rw [← ev]; exact hG.val 17 20 123 _ rfl (hdep ⟨20, .chain⟩ (by simp) rfl)
    have hw := wanted_of (ops := opsKe28) (a := a) (o := { dst := some 125, op := Op.call { callee := Callee.value (Operand.func 18), args := #[Operand.tmp 124], argTypes := #[27] }, type := 31, pos := "more.go:43", after := #[{ on := 21, ground := Ground.data }, { on := 20, ground := Ground.chain }, { on := 20, ground := Ground.guard }], guard := some (20, true) }) (g := 20) (s := 123) (b := true) (b' := true) rfl rfl xg
    replace hw := hw.trans (show (true == true) = true from rfl)
    rw [if_pos hw]
    clear hw xg
    have hSj := hG.at 3 (22, 125) rfl hLi (fun c h0 hc => by simp [ke28C] at hc; subst hc; exact hcl 20 _ rfl (hdep ⟨20, .chain⟩ (by simp) rfl) ⟨18, .chain⟩ (by simp [opsKe28]) rfl)
    have hfin := fun v w' hs => hK v w' (hG.call 3 (22, 125) rfl hLi (fun c h0 hc => by simp [ke28C] at hc; subst hc; exact hcl 20 _ rfl (hdep ⟨20, .chain⟩ (by simp) rfl) ⟨18, .chain⟩ (by simp [opsKe28]) rfl) (by kernel_rfl) v w' hs)
    have HK := Lib.hid hfin
    generalize (resOf ke28C fun t => a.eval (.tmp t)) = R at *
    clear hG hcl hdep hfr hK hfin hLi
    have hc := Lib.hid (hc3 _ _ hSj)
    clear hSj hcb hcv hrt hc0 hc1 hc2 hc3 hc4 hc5
    go_simp
    go_at_call 18
    refine hc.out.mono ?_
    rintro e w' ⟨v, rfl, hs⟩
    exact HK.out v w' hs
  | 23, ho =>
    simp only [opsKe28, List.getElem?_toArray, List.getElem?_cons_succ, List.getElem?_cons_zero, Option.some.injEq] at ho
    subst ho
    have xg : a.tmps[123]?.getD undef = .bool true := by rw [← ev]; exact hG.val 17 20 123 _ rfl (hdep ⟨20, .guard⟩ (by simp) rfl)
    have hw := wanted_of (ops := opsKe28) (a := a) (o := { dst := some 126, op := Op.convert 31 9 (Operand.tmp 125), type := 9, pos := "more.go:43", after := #[{ on := 22, ground := Ground.data }, { on := 20, ground := Ground.guard }], guard := some (20, true) }) (g := 20) (s := 123) (b := true) (b' := true) rfl rfl xg
    replace hw := hw.trans (show (true == true) = true from rfl)
    rw [if_pos hw]
    clear hw xg
    obtain ⟨ph, hSp, hdone⟩ := hG.any
    have hd125 : 3 < ph := hdone 3 (22, 125) rfl (hdep ⟨22, .data⟩ (by simp) rfl)
    have r125 : a.tmps[125]?.getD undef = resOf ke28C (fun t => a.eval (.tmp t)) 3 := by rw [← ev]; exact (resOf_at (C := ke28C) (j := 3) rfl a).symm
    have hfin := hK (.string bs) w (hG.quiet 19 23 126 _ rfl (by kernel_rfl) (by kernel_rfl))
    have HK := Lib.hid hfin
    generalize (resOf ke28C fun t => a.eval (.tmp t)) = R at *
    obtain ⟨A2, c2, q1, q2⟩ := hcv _ _ _ hSp 3 (by decide) hd125
    rw [q1] at r125
    clear hcb hcv hrt hc0 hc1 hc2 hc3 hc4 hc5 q1 hd125
    clear hSp hdone
    clear hG hcl hdep hfr hK hfin hLi 
    go_simp
    exact HK.out
  | 24, ho =>
    simp only [opsKe28, List.getElem?_toArray, List.getElem?_cons_succ, List.getElem?_cons_zero, Option.some.injEq] at ho
    subst ho
    have xg : a.tmps[123]?.getD undef = .bool true := by rw [← ev]; exact hG.val 17 20 123 _ rfl (hdep ⟨20, .guard⟩ (by simp) rfl)
    have hw := wanted_of (ops := opsKe28) (a := a) (o := { dst := some 127, op := Op.move (Operand.tmp 1), type := 31, pos := "more.go:43", after := #[{ on := 20, ground := Ground.guard }], guard := some (20, true) }) (g := 20) (s := 123) (b := true) (b' := true) rfl rfl xg
    replace hw := hw.trans (show (true == true) = true from rfl)
    rw [if_pos hw]
    clear hw xg
    have hfin := hK (.slice Ab nb cb) w (hG.quiet 20 24 127 _ rfl (by kernel_rfl) (by kernel_rfl))
    have HK := Lib.hid hfin
    clear hG hcl hdep hfr hK hfin hLi 
    go_simp
    exact HK.out
  | 25, ho =>
    simp only [opsKe28, List.getElem?_toArray, List.getElem?_cons_succ, List.getElem?_cons_zero, Option.some.injEq] at ho
    subst ho
    have x127 : a.tmps[127]?.getD undef = .slice Ab nb cb := by rw [← ev]; exact hG.val 20 24 127 _ rfl (hdep ⟨24, .data⟩ (by simp) rfl)
    have xg : a.tmps[123]?.getD undef = .bool true := by rw [← ev]; exact hG.val 17 20 123 _ rfl (hdep ⟨20, .guard⟩ (by simp) rfl)
    have hw := wanted_of (ops := opsKe28) (a := a) (o := { dst := some 128, op := Op.convert 31 9 (Operand.tmp 127), type := 9, pos := "more.go:43", after := #[{ on := 24, ground := Ground.data }, { on := 20, ground := Ground.guard }], guard := some (20, true) }) (g := 20) (s := 123) (b := true) (b' := true) rfl rfl xg
    replace hw := hw.trans (show (true == true) = true from rfl)
    rw [if_pos hw]
    clear hw xg
    obtain ⟨ph, hSp, hdone⟩ := hG.any
    have hfin := hK (.string bs) w (hG.quiet 21 25 128 _ rfl (by kernel_rfl) (by kernel_rfl))
    have HK := Lib.hid hfin
    generalize (resOf ke28C fun t => a.eval (.tmp t)) = R at *
    have q2 := hcb _ _ _ hSp
    clear hcb hcv hrt hc0 hc1 hc2 hc3 hc4 hc5
    clear hSp hdone
    clear hG hcl hdep hfr hK hfin hLi 
    go_simp
    exact HK.out
  | 26, ho =>
    simp only [opsKe28, List.getElem?_toArray, List.getElem?_cons_succ, List.getElem?_cons_zero, Option.some.injEq] at ho
    subst ho
    have x126 : a.tmps[126]?.getD undef = .string bs := by rw [← ev]; exact hG.val 19 23 126 _ rfl (hdep ⟨23, .data⟩ (by simp) rfl)
    have x128 : a.tmps[128]?.getD undef = .string bs := by rw [← ev]; exact hG.val 21 25 128 _ rfl (hdep ⟨25, .data⟩ (by simp) rfl)
    have xg : a.tmps[123]?.getD undef = .bool true := by rw [← ev]; exact hG.val 17 20 123 _ rfl (hdep ⟨20, .guard⟩ (by simp) rfl)
    have hw := wanted_of (ops := opsKe28) (a := a) (o := { dst := some 129, op := Op.binOp BinOp.eql 9 (Operand.tmp 126) (Operand.tmp 128) 9, type := 4, pos := "more.go:43", after := #[{ on := 23, ground := Ground.data }, { on := 25, ground := Ground.data }, { on := 20, ground := Ground.guard }], guard := some (20, true) }) (g := 20) (s := 123) (b := true) (b' := true) rfl rfl xg
    replace hw := hw.trans (show (true == true) = true from rfl)
    rw [if_pos hw]
    clear hw xg
    have hfin := hK (.bool true) w (hG.quiet 22 26 129 _ rfl (by kernel_rfl) (by kernel_rfl))
    have HK := Lib.hid hfin
    clear hG hcl hdep hfr hK hfin hLi 
    go_simp
    exact HK.out
  | 27, ho =>
    simp only [opsKe28, List.getElem?_toArray, List.getElem?_cons_succ, List.getElem?_cons_zero, Option.some.injEq] at ho
    subst ho
    have x123 : a.tmps[123]?.getD undef = .bool true := by rw [← ev]; exact hG.val 17 20 123 _ rfl (hdep ⟨20, .data⟩ (by simp) rfl)
    have x129 : a.tmps[129]?.getD undef = .bool true := by rw [← ev]; exact hG.val 22 26 129 _ rfl (hdep ⟨26, .data⟩ (by simp) rfl)
    rw [if_pos (show Region.wanted _ _ = true from rfl)]
    have hfin := hK (.bool true) w (hG.quiet 23 27 130 _ rfl (by kernel_rfl) (by kernel_rfl))
    have HK := Lib.hid hfin
    clear hG hcl hdep hfr hK hfin hLi 
    go_simp
    exact HK.out
  | 28, ho =>
    simp only [opsKe28, List.getElem?_toArray, List.getElem?_cons_succ, List.getElem?_cons_zero, Option.some.injEq] at ho
    subst ho
    have x130 : a.tmps[130]?.getD undef = .bool true := by rw [← ev]; exact hG.val 23 27 130 _ rfl (hdep ⟨27, .data⟩ (by simp) rfl)
    rw [if_pos (show Region.wanted _ _ = true from rfl)]
    have hfin := hK (.bool true) w (hG.quiet 24 28 131 _ rfl (by kernel_rfl) (by kernel_rfl))
    have HK := Lib.hid hfin
    clear hG hcl hdep hfr hK hfin hLi 
    go_simp
    exact HK.out
  | 29, ho =>
    simp only [opsKe28, List.getElem?_toArray, List.getElem?_cons_succ, List.getElem?_cons_zero, Option.some.injEq] at ho
    subst ho
    have xg : a.tmps[131]?.getD undef = .bool true := by rw [← ev]; exact hG.val 24 28 131 _ rfl (hdep ⟨28, .guard⟩ (by simp) rfl)
    have hw := wanted_of (ops := opsKe28) (a := a) (o := { dst := some 132, op := Op.move (Operand.tmp 9), type := 27, pos := "more.go:43", after := #[{ on := 28, ground := Ground.guard }], guard := some (28, true) }) (g := 28) (s := 131) (b := true) (b' := true) rfl rfl xg
    replace hw := hw.trans (show (true == true) = true from rfl)
    rw [if_pos hw]
    clear hw xg
    have hfin := hK (.pointer (some ⟨l, 0, none⟩)) w (hG.quiet 25 29 132 _ rfl (by kernel_rfl) (by kernel_rfl))
    have HK := Lib.hid hfin
    clear hG hcl hdep hfr hK hfin hLi 
    go_simp
    exact HK.out
  | 30, ho =>
    simp only [opsKe28, List.getElem?_toArray, List.getElem?_cons_succ, List.getElem?_cons_zero, Option.some.injEq] at ho
    subst ho
    have x132 : a.tmps[132]?.getD undef = .pointer (some ⟨l, 0, none⟩) := by rw [← ev]; exact hG.val 25 29 132 _ rfl (hdep ⟨29, .data⟩ (by simp) rfl)
    have xg : a.tmps[131]?.getD undef = .bool true := by rw [← ev]; exact hG.val 24 28 131 _ rfl (hdep ⟨28, .chain⟩ (by simp) rfl)
    have hw := wanted_of (ops := opsKe28) (a := a) (o := { dst := some 133, op := Op.call { callee := Callee.value (Operand.func 14), args := #[Operand.tmp 132], argTypes := #[27] }, type := 33, pos := "more.go:43", after := #[{ on := 29, ground := Ground.data }, { on := 28, ground := Ground.chain }, { on := 28, ground := Ground.guard }], guard := some (28, true) }) (g := 28) (s := 131) (b := true) (b' := true) rfl rfl xg
    replace hw := hw.trans (show (true == true) = true from rfl)
    rw [if_pos hw]
    clear hw xg
    have hSj := hG.at 4 (30, 133) rfl hLi (fun c h0 hc => by simp [ke28C] at hc; subst hc; exact hcl 28 _ rfl (hdep ⟨28, .chain⟩ (by simp) rfl) ⟨22, .chain⟩ (by simp [opsKe28]) rfl)
    have hfin := fun v w' hs => hK v w' (hG.call 4 (30, 133) rfl hLi (fun c h0 hc => by simp [ke28C] at hc; subst hc; exact hcl 28 _ rfl (hdep ⟨28, .chain⟩ (by simp) rfl) ⟨22, .chain⟩ (by simp [opsKe28]) rfl) (by kernel_rfl) v w' hs)
    have HK := Lib.hid hfin
    generalize (resOf ke28C fun t => a.eval (.tmp t)) = R at *
    clear hG hcl hdep hfr hK hfin hLi
    have hc := Lib.hid (hc4 _ _ hSj)
    clear hSj hcb hcv hrt hc0 hc1 hc2 hc3 hc4 hc5
    go_simp
    go_at_call 14
    refine hc.out.mono ?_
    rintro e w' ⟨v, rfl, hs⟩
    exact HK.out v w' hs
  | 31, ho =>
    simp only [opsKe28, List.getElem?_toArray, List.getElem?_cons_succ, List.getElem?_cons_zero, Option.some.injEq] at ho
    subst ho
    have xg : a.tmps[131]?.getD undef = .bool true := by rw [← ev]; exact hG.val 24 28 131 _ rfl (hdep ⟨28, .guard⟩ (by simp) rfl)
    have hw := wanted_of (ops := opsKe28) (a := a) (o := { dst := some 134, op := Op.move (Operand.tmp 12), type := 37, pos := "more.go:43", after := #[{ on := 28, ground := Ground.guard }], guard := some (28, true) }) (g := 28) (s := 131) (b := true) (b' := true) rfl rfl xg
    replace hw := hw.trans (show (true == true) = true from rfl)
    rw [if_pos hw]
    clear hw xg
    have hfin := hK (.slice Aw nw cw) w (hG.quiet 26 31 134 _ rfl (by kernel_rfl) (by kernel_rfl))
    have HK := Lib.hid hfin
    clear hG hcl hdep hfr hK hfin hLi 
    go_simp
    exact HK.out
  | 32, ho =>
    simp only [opsKe28, List.getElem?_toArray, List.getElem?_cons_succ, List.getElem?_cons_zero, Option.some.injEq] at ho
    subst ho
    have x134 : a.tmps[134]?.getD undef = .slice Aw nw cw := by rw [← ev]; exact hG.val 26 31 134 _ rfl (hdep ⟨31, .data⟩ (by simp) rfl)
    have xg : a.tmps[131]?.getD undef = .bool true := by rw [← ev]; exact hG.val 24 28 131 _ rfl (hdep ⟨28, .guard⟩ (by simp) rfl)
    have hw := wanted_of (ops := opsKe28) (a := a) (o := { dst := some 135, op := Op.call { callee := Callee.value (Operand.func 13), args := #[Operand.tmp 133, Operand.tmp 134], argTypes := #[33, 37] }, type := 4, pos := "more.go:43", after := #[{ on := 30, ground := Ground.data }, { on := 31, ground := Ground.data }, { on := 30, ground := Ground.chain }, { on := 28, ground := Ground.guard }], guard := some (28, true) }) (g := 28) (s := 131) (b := true) (b' := true) rfl rfl xg
    replace hw := hw.trans (show (true == true) = true from rfl)
    rw [if_pos hw]
    clear hw xg
    have hSj := hG.at 5 (32, 135) rfl hLi (fun c h0 hc => by simp [ke28C] at hc; subst hc; exact hdep ⟨30, .data⟩ (by simp) rfl)
    have r133 : a.tmps[133]?.getD undef = resOf ke28C (fun t => a.eval (.tmp t)) 4 := by rw [← ev]; exact (resOf_at (C := ke28C) (j := 4) rfl a).symm
    have hfin := fun v w' hs => hK v w' (hG.call 5 (32, 135) rfl hLi (fun c h0 hc => by simp [ke28C] at hc; subst hc; exact hdep ⟨30, .data⟩ (by simp) rfl) (by kernel_rfl) v w' hs)
    have HK := Lib.hid hfin
    generalize (resOf ke28C fun t => a.eval (.tmp t)) = R at *
    clear hG hcl hdep hfr hK hfin hLi
    have hc := Lib.hid (hc5 _ _ hSj)
    clear hSj hcb hcv hrt hc0 hc1 hc2 hc3 hc4 hc5
    go_simp
    go_at_call 13
    refine hc.out.mono ?_
    rintro e w' ⟨v, rfl, hs⟩
    exact HK.out v w' hs
  | 33, ho =>
    simp only [opsKe28, List.getElem?_toArray, List.getElem?_cons_succ, List.getElem?_cons_zero, Option.some.injEq] at ho
    subst ho
    have x131 : a.tmps[131]?.getD undef = .bool true := by rw [← ev]; exact hG.val 24 28 131 _ rfl (hdep ⟨28, .data⟩ (by simp) rfl)
    rw [if_pos (show Region.wanted _ _ = true from rfl)]
    obtain ⟨ph, hSp, hdone⟩ := hG.any
    have hd135 : 5 < ph := hdone 5 (32, 135) rfl (hdep ⟨32, .data⟩ (by simp) rfl)
    have r135 : a.tmps[135]?.getD undef = resOf ke28C (fun t => a.eval (.tmp t)) 5 := by rw [← ev]; exact (resOf_at (C := ke28C) (j := 5) rfl a).symm
    have hfin := hK (.bool true) w (hG.quiet 27 33 136 _ rfl (by kernel_rfl) (by kernel_rfl))
    have HK := Lib.hid hfin
    generalize (resOf ke28C fun t => a.eval (.tmp t)) = R at *
    have q1 := hrt _ _ _ hSp 5 (by decide) hd135
    rw [q1] at r135
    clear hcb hcv hrt hc0 hc1 hc2 hc3 hc4 hc5 q1 hd135
    clear hSp hdone
    clear hG hcl hdep hfr hK hfin hLi 
    go_simp
    exact HK.out
  | 34, ho =>
    simp only [opsKe28, List.getElem?_toArray, List.getElem?_cons_succ, List.getElem?_cons_zero, Option.some.injEq] at ho
    subst ho
    have x136 : a.tmps[136]?.getD undef = .bool true := by rw [← ev]; exact hG.val 27 33 136 _ rfl (hdep ⟨33, .data⟩ (by simp) rfl)
    rw [if_pos (show Region.wanted _ _ = true from rfl)]
    have hfin := hK (.bool true) w (hG.quiet 28 34 6 _ rfl (by kernel_rfl) (by kernel_rfl))
    have HK := Lib.hid hfin
    clear hG hcl hdep hfr hK hfin hLi 
    go_simp
    exact HK.out
  | n + 35, ho => exact absurd (Array.getElem?_eq_some_iff.1 ho).1 (by show ¬ n + 35 < 35; omega)
end Go.Proofs.YtambddncncaehaaDoor
