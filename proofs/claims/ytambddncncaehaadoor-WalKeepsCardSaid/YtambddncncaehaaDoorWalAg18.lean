/- WalAgain: the bases of three logs. -/
import Derived.Test.YtambddncncaehaaDoorVals
import Derived.Test.YtambddncncaehaaDoorAppend
import Derived.WalkKit
import Derived.WalkSpells
import Derived.WalkLawsBesides
import Derived.Lib.Hide
namespace Go.Proofs.YtambddncncaehaaDoor
open Go.RowKit
set_option linter.unusedVariables false
set_option maxRecDepth 100000
set_option linter.unusedSimpArgs false

def opsAg18 : Array Oper := #[
  { dst := some 88, op := Op.move (Operand.tmp 15), type := 24, pos := "law.go:166", after := #[], guard := none },
  { dst := some 89, op := Op.binOp BinOp.neq 24 (Operand.tmp 88) (Operand.const (Value.int IntKind.i64 0)) 24, type := 4, pos := "law.go:166", after := #[{ on := 0, ground := Ground.data }], guard := none },
  { dst := some 90, op := Op.move (Operand.tmp 89), type := 4, pos := "law.go:166", after := #[{ on := 1, ground := Ground.data }], guard := none },
  { dst := some 91, op := Op.move (Operand.tmp 17), type := 24, pos := "law.go:166", after := #[{ on := 2, ground := Ground.guard }], guard := some (2, false) },
  { dst := some 92, op := Op.binOp BinOp.neq 24 (Operand.tmp 91) (Operand.const (Value.int IntKind.i64 0)) 24, type := 4, pos := "law.go:166", after := #[{ on := 3, ground := Ground.data }, { on := 2, ground := Ground.guard }], guard := some (2, false) },
  { dst := some 93, op := Op.pick (Operand.tmp 90) (Operand.const (Value.bool true)) (Operand.tmp 92), type := 4, pos := "law.go:166", after := #[{ on := 2, ground := Ground.data }, { on := 4, ground := Ground.data }], guard := none },
  { dst := some 94, op := Op.move (Operand.tmp 93), type := 4, pos := "law.go:166", after := #[{ on := 5, ground := Ground.data }, { on := 2, ground := Ground.chain }], guard := none },
  { dst := some 95, op := Op.move (Operand.tmp 14), type := 27, pos := "law.go:166", after := #[{ on := 6, ground := Ground.guard }], guard := some (6, false) },
  { dst := some 96, op := Op.binOp BinOp.eql 27 (Operand.tmp 95) (Operand.const (Value.pointer none)) 27, type := 4, pos := "law.go:166", after := #[{ on := 7, ground := Ground.data }, { on := 6, ground := Ground.guard }], guard := some (6, false) },
  { dst := some 97, op := Op.pick (Operand.tmp 94) (Operand.const (Value.bool true)) (Operand.tmp 96), type := 4, pos := "law.go:166", after := #[{ on := 6, ground := Ground.data }, { on := 8, ground := Ground.data }], guard := none },
  { dst := some 98, op := Op.move (Operand.tmp 97), type := 4, pos := "law.go:166", after := #[{ on := 9, ground := Ground.data }, { on := 6, ground := Ground.chain }], guard := none },
  { dst := some 99, op := Op.move (Operand.tmp 16), type := 27, pos := "law.go:166", after := #[{ on := 10, ground := Ground.guard }], guard := some (10, false) },
  { dst := some 100, op := Op.binOp BinOp.eql 27 (Operand.tmp 99) (Operand.const (Value.pointer none)) 27, type := 4, pos := "law.go:166", after := #[{ on := 11, ground := Ground.data }, { on := 10, ground := Ground.guard }], guard := some (10, false) },
  { dst := some 101, op := Op.pick (Operand.tmp 98) (Operand.const (Value.bool true)) (Operand.tmp 100), type := 4, pos := "law.go:166", after := #[{ on := 10, ground := Ground.data }, { on := 12, ground := Ground.data }], guard := none },
  { dst := some 102, op := Op.move (Operand.tmp 101), type := 4, pos := "law.go:166", after := #[{ on := 13, ground := Ground.data }, { on := 10, ground := Ground.chain }], guard := none },
  { dst := some 103, op := Op.move (Operand.tmp 14), type := 27, pos := "law.go:166", after := #[{ on := 14, ground := Ground.guard }], guard := some (14, false) },
  { dst := some 104, op := Op.call { callee := Callee.value (Operand.func 18), args := #[Operand.tmp 103], argTypes := #[27] }, type := 31, pos := "law.go:166", after := #[{ on := 15, ground := Ground.data }, { on := 14, ground := Ground.chain }, { on := 14, ground := Ground.guard }], guard := some (14, false) },
  { dst := some 105, op := Op.convert 31 9 (Operand.tmp 104), type := 9, pos := "law.go:166", after := #[{ on := 16, ground := Ground.data }, { on := 14, ground := Ground.guard }], guard := some (14, false) },
  { dst := some 106, op := Op.move (Operand.tmp 11), type := 27, pos := "law.go:166", after := #[{ on := 14, ground := Ground.guard }], guard := some (14, false) },
  { dst := some 107, op := Op.call { callee := Callee.value (Operand.func 18), args := #[Operand.tmp 106], argTypes := #[27] }, type := 31, pos := "law.go:166", after := #[{ on := 18, ground := Ground.data }, { on := 16, ground := Ground.chain }, { on := 14, ground := Ground.guard }], guard := some (14, false) },
  { dst := some 108, op := Op.convert 31 9 (Operand.tmp 107), type := 9, pos := "law.go:166", after := #[{ on := 19, ground := Ground.data }, { on := 14, ground := Ground.guard }], guard := some (14, false) },
  { dst := some 109, op := Op.binOp BinOp.neq 9 (Operand.tmp 105) (Operand.tmp 108) 9, type := 4, pos := "law.go:166", after := #[{ on := 17, ground := Ground.data }, { on := 20, ground := Ground.data }, { on := 14, ground := Ground.guard }], guard := some (14, false) },
  { dst := some 110, op := Op.pick (Operand.tmp 102) (Operand.const (Value.bool true)) (Operand.tmp 109), type := 4, pos := "law.go:166", after := #[{ on := 14, ground := Ground.data }, { on := 21, ground := Ground.data }], guard := none },
  { dst := some 111, op := Op.move (Operand.tmp 110), type := 4, pos := "law.go:166", after := #[{ on := 22, ground := Ground.data }, { on := 19, ground := Ground.chain }], guard := none },
  { dst := some 112, op := Op.move (Operand.tmp 16), type := 27, pos := "law.go:166", after := #[{ on := 23, ground := Ground.guard }], guard := some (23, false) },
  { dst := some 113, op := Op.call { callee := Callee.value (Operand.func 18), args := #[Operand.tmp 112], argTypes := #[27] }, type := 31, pos := "law.go:166", after := #[{ on := 24, ground := Ground.data }, { on := 23, ground := Ground.chain }, { on := 23, ground := Ground.guard }], guard := some (23, false) },
  { dst := some 114, op := Op.convert 31 9 (Operand.tmp 113), type := 9, pos := "law.go:166", after := #[{ on := 25, ground := Ground.data }, { on := 23, ground := Ground.guard }], guard := some (23, false) },
  { dst := some 115, op := Op.move (Operand.tmp 11), type := 27, pos := "law.go:166", after := #[{ on := 23, ground := Ground.guard }], guard := some (23, false) },
  { dst := some 116, op := Op.call { callee := Callee.value (Operand.func 18), args := #[Operand.tmp 115], argTypes := #[27] }, type := 31, pos := "law.go:166", after := #[{ on := 27, ground := Ground.data }, { on := 25, ground := Ground.chain }, { on := 23, ground := Ground.guard }], guard := some (23, false) },
  { dst := some 117, op := Op.convert 31 9 (Operand.tmp 116), type := 9, pos := "law.go:166", after := #[{ on := 28, ground := Ground.data }, { on := 23, ground := Ground.guard }], guard := some (23, false) },
  { dst := some 118, op := Op.binOp BinOp.neq 9 (Operand.tmp 114) (Operand.tmp 117) 9, type := 4, pos := "law.go:166", after := #[{ on := 26, ground := Ground.data }, { on := 29, ground := Ground.data }, { on := 23, ground := Ground.guard }], guard := some (23, false) },
  { dst := some 119, op := Op.pick (Operand.tmp 111) (Operand.const (Value.bool true)) (Operand.tmp 118), type := 4, pos := "law.go:166", after := #[{ on := 23, ground := Ground.data }, { on := 30, ground := Ground.data }], guard := none }]

def ag18Vals (x y z nb : Nat) (bs : ByteArray) : List (Nat × Nat × Value) := [(0, 88, .int .i64 0), (1, 89, .bool false), (2, 90, .bool false), (3, 91, .int .i64 0), (4, 92, .bool false), (5, 93, .bool false), (6, 94, .bool false), (7, 95, .pointer (some ⟨y, 0, none⟩)), (8, 96, .bool false), (9, 97, .bool false), (10, 98, .bool false), (11, 99, .pointer (some ⟨z, 0, none⟩)), (12, 100, .bool false), (13, 101, .bool false), (14, 102, .bool false), (15, 103, .pointer (some ⟨y, 0, none⟩)), (17, 105, .string bs), (18, 106, .pointer (some ⟨x, 0, none⟩)), (20, 108, .string bs), (21, 109, .bool false), (22, 110, .bool false), (23, 111, .bool false), (24, 112, .pointer (some ⟨z, 0, none⟩)), (26, 114, .string bs), (27, 115, .pointer (some ⟨x, 0, none⟩)), (29, 117, .string bs), (30, 118, .bool false), (31, 119, .bool false)]
def ag18C : List (Nat × Nat) := [(16, 104), (19, 107), (25, 113), (28, 116)]

set_option maxHeartbeats 4000000 in
set_option maxRecDepth 100000 in
theorem ag18 {Q : Exit → Act → World → Prop} {a0 : Act} {wp : World} (x y z nb : Nat) (bs : ByteArray) (S : Nat → (Nat → Value) → World → Prop)
    (hsz : 119 < a0.tmps.size) (in11 : a0.eval (.tmp 11) = .pointer (some ⟨x, 0, none⟩)) (in14 : a0.eval (.tmp 14) = .pointer (some ⟨y, 0, none⟩)) (in15 : a0.eval (.tmp 15) = .int .i64 0) (in16 : a0.eval (.tmp 16) = .pointer (some ⟨z, 0, none⟩)) (in17 : a0.eval (.tmp 17) = .int .i64 0)
    (hcv : ∀ p R w, S p R w → ∀ k, k < p → ∃ A c, R k = .slice A nb c ∧ (convert 31 9 (.slice A nb c)).run Tryd.prog w = .ok (.string bs) w)
    (hc0 : ∀ R w, S 0 R w → Calls Tryd.prog 18 #[.pointer (some ⟨y, 0, none⟩)] w fun e w' => ∃ v, e = .returned v ∧ S 1 (setR R 0 v) w')
    (hc1 : ∀ R w, S 1 R w → Calls Tryd.prog 18 #[.pointer (some ⟨x, 0, none⟩)] w fun e w' => ∃ v, e = .returned v ∧ S 2 (setR R 1 v) w')
    (hc2 : ∀ R w, S 2 R w → Calls Tryd.prog 18 #[.pointer (some ⟨z, 0, none⟩)] w fun e w' => ∃ v, e = .returned v ∧ S 3 (setR R 2 v) w')
    (hc3 : ∀ R w, S 3 R w → Calls Tryd.prog 18 #[.pointer (some ⟨x, 0, none⟩)] w fun e w' => ∃ v, e = .returned v ∧ S 4 (setR R 3 v) w')
    (hS : S 0 (resOf ag18C fun t => a0.eval (.tmp t)) wp.drew)
    (fin : ∀ a w, Fr [88, 89, 90, 91, 92, 93, 94, 95, 96, 97, 98, 99, 100, 101, 102, 103, 104, 105, 106, 107, 108, 109, 110, 111, 112, 113, 114, 115, 116, 117, 118, 119] a0 a → a.eval (.tmp 119) = .bool false → S 4 (resOf ag18C fun t => a.eval (.tmp t)) w → Q .normal a w) :
    (Code.region 18 opsAg18 true).wp Tryd.prog Q a0 wp := by
  refine region_inv (by kernel_rfl) [88, 89, 90, 91, 92, 93, 94, 95, 96, 97, 98, 99, 100, 101, 102, 103, 104, 105, 106, 107, 108, 109, 110, 111, 112, 113, 114, 115, 116, 117, 118, 119] (by kernel_rfl) (by kernel_rfl) (fun t ht => by simp at ht; omega) (GV (ag18Vals x y z nb bs) ag18C S) (.start hS) ?_
    (fun L a w hf hall hG => fin a w hf (hG.val 27 31 119 _ rfl (hall 31 (by decide))) (hG.fin (fun c hc => by simp [ag18C] at hc; rcases hc with rfl | rfl | rfl | rfl <;> exact hall _ (by decide))))
  clear hS fin
  intro ix oo ho L a w hfr hG hLi hdep hcl K hK
  have e11 : a.tmps[11]?.getD undef = .pointer (some ⟨x, 0, none⟩) := by rw [← ev]; exact (hfr.same 11 (by decide)).trans in11
  have e14 : a.tmps[14]?.getD undef = .pointer (some ⟨y, 0, none⟩) := by rw [← ev]; exact (hfr.same 14 (by decide)).trans in14
  have e15 : a.tmps[15]?.getD undef = .int .i64 0 := by rw [← ev]; exact (hfr.same 15 (by decide)).trans in15
  have e16 : a.tmps[16]?.getD undef = .pointer (some ⟨z, 0, none⟩) := by rw [← ev]; exact (hfr.same 16 (by decide)).trans in16
  have e17 : a.tmps[17]?.getD undef = .int .i64 0 := by rw [← ev]; exact (hfr.same 17 (by decide)).trans in17
  clear in11 in14 in15 in16 in17
  match ix, ho with
  | 0, ho =>
    simp only [opsAg18, List.getElem?_toArray, List.getElem?_cons_zero, Option.some.injEq] at ho
    subst ho
    rw [if_pos (show Region.wanted _ _ = true from rfl)]
    have hfin := hK (.int .i64 0) w (hG.quiet 0 0 88 _ rfl (by kernel_rfl) (by kernel_rfl))
    have HK := Lib.hid hfin
    clear hG hcl hdep hfr hK hfin hLi 
    go_simp
    exact HK.out
  | 1, ho =>
    simp only [opsAg18, List.getElem?_toArray, List.getElem?_cons_succ, List.getElem?_cons_zero, Option.some.injEq] at ho
    subst ho
    have x88 : a.tmps[88]?.getD undef = .int .i64 0 := by rw [← ev]; exact hG.val 0 0 88 _ rfl (hdep ⟨0, .data⟩ (by simp) rfl)
    rw [if_pos (show Region.wanted _ _ = true from rfl)]
    have hfin := hK (.bool false) w (hG.quiet 1 1 89 _ rfl (by kernel_rfl) (by kernel_rfl))
    have HK := Lib.hid hfin
    clear hG hcl hdep hfr hK hfin hLi 
    go_simp
    exact HK.out
  | 2, ho =>
    simp only [opsAg18, List.getElem?_toArray, List.getElem?_cons_succ, List.getElem?_cons_zero, Option.some.injEq] at ho
    subst ho
    have x89 : a.tmps[89]?.getD undef = .bool false := by rw [← ev]; exact hG.val 1 1 89 _ rfl (hdep ⟨1, .data⟩ (by simp) rfl)
    rw [if_pos (show Region.wanted _ _ = true from rfl)]
    have hfin := hK (.bool false) w (hG.quiet 2 2 90 _ rfl (by kernel_rfl) (by kernel_rfl))
    have HK := Lib.hid hfin
    clear hG hcl hdep hfr hK hfin hLi 
    go_simp
    exact HK.out
  | 3, ho =>
    simp only [opsAg18, List.getElem?_toArray, List.getElem?_cons_succ, List.getElem?_cons_zero, Option.some.injEq] at ho
    subst ho
    have xg : a.tmps[90]?.getD undef = .bool false := by rw [← ev]; exact hG.val 2 2 90 _ rfl (hdep ⟨2, .guard⟩ (by simp) rfl)
    have hw := wanted_of (ops := opsAg18) (a := a) (o := { dst := some 91, op := Op.move (Operand.tmp 17), type := 24, pos := "law.go:166", after := #[{ on := 2, ground := Ground.guard }], guard := some (2, false) }) (g := 2) (s := 90) (b := false) (b' := false) rfl rfl xg
    replace hw := hw.trans (show (false == false) = true from rfl)
    rw [if_pos hw]
    clear hw xg
    have hfin := hK (.int .i64 0) w (hG.quiet 3 3 91 _ rfl (by kernel_rfl) (by kernel_rfl))
    have HK := Lib.hid hfin
    clear hG hcl hdep hfr hK hfin hLi 
    go_simp
    exact HK.out
  | 4, ho =>
    simp only [opsAg18, List.getElem?_toArray, List.getElem?_cons_succ, List.getElem?_cons_zero, Option.some.injEq] at ho
    subst ho
    have x91 : a.tmps[91]?.getD undef = .int .i64 0 := by rw [← ev]; exact hG.val 3 3 91 _ rfl (hdep ⟨3, .data⟩ (by simp) rfl)
    have xg : a.tmps[90]?.getD undef = .bool false := by rw [← ev]; exact hG.val 2 2 90 _ rfl (hdep ⟨2, .guard⟩ (by simp) rfl)
    have hw := wanted_of (ops := opsAg18) (a := a) (o := { dst := some 92, op := Op.binOp BinOp.neq 24 (Operand.tmp 91) (Operand.const (Value.int IntKind.i64 0)) 24, type := 4, pos := "law.go:166", after := #[{ on := 3, ground := Ground.data }, { on := 2, ground := Ground.guard }], guard := some (2, false) }) (g := 2) (s := 90) (b := false) (b' := false) rfl rfl xg
    replace hw := hw.trans (show (false == false) = true from rfl)
    rw [if_pos hw]
    clear hw xg
    have hfin := hK (.bool false) w (hG.quiet 4 4 92 _ rfl (by kernel_rfl) (by kernel_rfl))
    have HK := Lib.hid hfin
    clear hG hcl hdep hfr hK hfin hLi 
    go_simp
    exact HK.out
  | 5, ho =>
    simp only [opsAg18, List.getElem?_toArray, List.getElem?_cons_succ, List.getElem?_cons_zero, Option.some.injEq] at ho
    subst ho
    have x90 : a.tmps[90]?.getD undef = .bool false := by rw [← ev]; exact hG.val 2 2 90 _ rfl (hdep ⟨2, .data⟩ (by simp) rfl)
    have x92 : a.tmps[92]?.getD undef = .bool false := by rw [← ev]; exact hG.val 4 4 92 _ rfl (hdep ⟨4, .data⟩ (by simp) rfl)
    rw [if_pos (show Region.wanted _ _ = true from rfl)]
    have hfin := hK (.bool false) w (hG.quiet 5 5 93 _ rfl (by kernel_rfl) (by kernel_rfl))
    have HK := Lib.hid hfin
    clear hG hcl hdep hfr hK hfin hLi 
    go_simp
    exact HK.out
  | 6, ho =>
    simp only [opsAg18, List.getElem?_toArray, List.getElem?_cons_succ, List.getElem?_cons_zero, Option.some.injEq] at ho
    subst ho
    have x93 : a.tmps[93]?.getD undef = .bool false := by rw [← ev]; exact hG.val 5 5 93 _ rfl (hdep ⟨5, .data⟩ (by simp) rfl)
    rw [if_pos (show Region.wanted _ _ = true from rfl)]
    have hfin := hK (.bool false) w (hG.quiet 6 6 94 _ rfl (by kernel_rfl) (by kernel_rfl))
    have HK := Lib.hid hfin
    clear hG hcl hdep hfr hK hfin hLi 
    go_simp
    exact HK.out
  | 7, ho =>
    simp only [opsAg18, List.getElem?_toArray, List.getElem?_cons_succ, List.getElem?_cons_zero, Option.some.injEq] at ho
    subst ho
    have xg : a.tmps[94]?.getD undef = .bool false := by rw [← ev]; exact hG.val 6 6 94 _ rfl (hdep ⟨6, .guard⟩ (by simp) rfl)
    have hw := wanted_of (ops := opsAg18) (a := a) (o := { dst := some 95, op := Op.move (Operand.tmp 14), type := 27, pos := "law.go:166", after := #[{ on := 6, ground := Ground.guard }], guard := some (6, false) }) (g := 6) (s := 94) (b := false) (b' := false) rfl rfl xg
    replace hw := hw.trans (show (false == false) = true from rfl)
    rw [if_pos hw]
    clear hw xg
    have hfin := hK (.pointer (some ⟨y, 0, none⟩)) w (hG.quiet 7 7 95 _ rfl (by kernel_rfl) (by kernel_rfl))
    have HK := Lib.hid hfin
    clear hG hcl hdep hfr hK hfin hLi 
    go_simp
    exact HK.out
  | 8, ho =>
    simp only [opsAg18, List.getElem?_toArray, List.getElem?_cons_succ, List.getElem?_cons_zero, Option.some.injEq] at ho
    subst ho
    have x95 : a.tmps[95]?.getD undef = .pointer (some ⟨y, 0, none⟩) := by rw [← ev]; exact hG.val 7 7 95 _ rfl (hdep ⟨7, .data⟩ (by simp) rfl)
    have xg : a.tmps[94]?.getD undef = .bool false := by rw [← ev]; exact hG.val 6 6 94 _ rfl (hdep ⟨6, .guard⟩ (by simp) rfl)
    have hw := wanted_of (ops := opsAg18) (a := a) (o := { dst := some 96, op := Op.binOp BinOp.eql 27 (Operand.tmp 95) (Operand.const (Value.pointer none)) 27, type := 4, pos := "law.go:166", after := #[{ on := 7, ground := Ground.data }, { on := 6, ground := Ground.guard }], guard := some (6, false) }) (g := 6) (s := 94) (b := false) (b' := false) rfl rfl xg
    replace hw := hw.trans (show (false == false) = true from rfl)
    rw [if_pos hw]
    clear hw xg
    have hfin := hK (.bool false) w (hG.quiet 8 8 96 _ rfl (by kernel_rfl) (by kernel_rfl))
    have HK := Lib.hid hfin
    clear hG hcl hdep hfr hK hfin hLi 
    go_simp
    exact HK.out
  | 9, ho =>
    simp only [opsAg18, List.getElem?_toArray, List.getElem?_cons_succ, List.getElem?_cons_zero, Option.some.injEq] at ho
    subst ho
    have x94 : a.tmps[94]?.getD undef = .bool false := by rw [← ev]; exact hG.val 6 6 94 _ rfl (hdep ⟨6, .data⟩ (by simp) rfl)
    have x96 : a.tmps[96]?.getD undef = .bool false := by rw [← ev]; exact hG.val 8 8 96 _ rfl (hdep ⟨8, .data⟩ (by simp) rfl)
    rw [if_pos (show Region.wanted _ _ = true from rfl)]
    have hfin := hK (.bool false) w (hG.quiet 9 9 97 _ rfl (by kernel_rfl) (by kernel_rfl))
    have HK := Lib.hid hfin
    clear hG hcl hdep hfr hK hfin hLi 
    go_simp
    exact HK.out
  | 10, ho =>
    simp only [opsAg18, List.getElem?_toArray, List.getElem?_cons_succ, List.getElem?_cons_zero, Option.some.injEq] at ho
    subst ho
    have x97 : a.tmps[97]?.getD undef = .bool false := by rw [← ev]; exact hG.val 9 9 97 _ rfl (hdep ⟨9, .data⟩ (by simp) rfl)
    rw [if_pos (show Region.wanted _ _ = true from rfl)]
    have hfin := hK (.bool false) w (hG.quiet 10 10 98 _ rfl (by kernel_rfl) (by kernel_rfl))
    have HK := Lib.hid hfin
    clear hG hcl hdep hfr hK hfin hLi 
    go_simp
    exact HK.out
  | 11, ho =>
    simp only [opsAg18, List.getElem?_toArray, List.getElem?_cons_succ, List.getElem?_cons_zero, Option.some.injEq] at ho
    subst ho
    have xg : a.tmps[98]?.getD undef = .bool false := by rw [← ev]; exact hG.val 10 10 98 _ rfl (hdep ⟨10, .guard⟩ (by simp) rfl)
    have hw := wanted_of (ops := opsAg18) (a := a) (o := { dst := some 99, op := Op.move (Operand.tmp 16), type := 27, pos := "law.go:166", after := #[{ on := 10, ground := Ground.guard }], guard := some (10, false) }) (g := 10) (s := 98) (b := false) (b' := false) rfl rfl xg
    replace hw := hw.trans (show (false == false) = true from rfl)
    rw [if_pos hw]
    clear hw xg
    have hfin := hK (.pointer (some ⟨z, 0, none⟩)) w (hG.quiet 11 11 99 _ rfl (by kernel_rfl) (by kernel_rfl))
    have HK := Lib.hid hfin
    clear hG hcl hdep hfr hK hfin hLi 
    go_simp
    exact HK.out
  | 12, ho =>
    simp only [opsAg18, List.getElem?_toArray, List.getElem?_cons_succ, List.getElem?_cons_zero, Option.some.injEq] at ho
    subst ho
    have x99 : a.tmps[99]?.getD undef = .pointer (some ⟨z, 0, none⟩) := by rw [← ev]; exact hG.val 11 11 99 _ rfl (hdep ⟨11, .data⟩ (by simp) rfl)
    have xg : a.tmps[98]?.getD undef = .bool false := by rw [← ev]; exact hG.val 10 10 98 _ rfl (hdep ⟨10, .guard⟩ (by simp) rfl)
    have hw := wanted_of (ops := opsAg18) (a := a) (o := { dst := some 100, op := Op.binOp BinOp.eql 27 (Operand.tmp 99) (Operand.const (Value.pointer none)) 27, type := 4, pos := "law.go:166", after := #[{ on := 11, ground := Ground.data }, { on := 10, ground := Ground.guard }], guard := some (10, false) }) (g := 10) (s := 98) (b := false) (b' := false) rfl rfl xg
    replace hw := hw.trans (show (false == false) = true from rfl)
    rw [if_pos hw]
    clear hw xg
    have hfin := hK (.bool false) w (hG.quiet 12 12 100 _ rfl (by kernel_rfl) (by kernel_rfl))
    have HK := Lib.hid hfin
    clear hG hcl hdep hfr hK hfin hLi 
    go_simp
    exact HK.out
  | 13, ho =>
    simp only [opsAg18, List.getElem?_toArray, List.getElem?_cons_succ, List.getElem?_cons_zero, Option.some.injEq] at ho
    subst ho
    have x98 : a.tmps[98]?.getD undef = .bool false := by rw [← ev]; exact hG.val 10 10 98 _ rfl (hdep ⟨10, .data⟩ (by simp) rfl)
    have x100 : a.tmps[100]?.getD undef = .bool false := by rw [← ev]; exact hG.val 12 12 100 _ rfl (hdep ⟨12, .data⟩ (by simp) rfl)
    rw [if_pos (show Region.wanted _ _ = true from rfl)]
    have hfin := hK (.bool false) w (hG.quiet 13 13 101 _ rfl (by kernel_rfl) (by kernel_rfl))
    have HK := Lib.hid hfin
    clear hG hcl hdep hfr hK hfin hLi 
    go_simp
    exact HK.out
  | 14, ho =>
    simp only [opsAg18, List.getElem?_toArray, List.getElem?_cons_succ, List.getElem?_cons_zero, Option.some.injEq] at ho
    subst ho
    have x101 : a.tmps[101]?.getD undef = .bool false := by rw [← ev]; exact hG.val 13 13 101 _ rfl (hdep ⟨13, .data⟩ (by simp) rfl)
    rw [if_pos (show Region.wanted _ _ = true from rfl)]
    have hfin := hK (.bool false) w (hG.quiet 14 14 102 _ rfl (by kernel_rfl) (by kernel_rfl))
    have HK := Lib.hid hfin
    clear hG hcl hdep hfr hK hfin hLi 
    go_simp
    exact HK.out
  | 15, ho =>
    simp only [opsAg18, List.getElem?_toArray, List.getElem?_cons_succ, List.getElem?_cons_zero, Option.some.injEq] at ho
    subst ho
    have xg : a.tmps[102]?.getD undef = .bool false := by rw [← ev]; exact hG.val 14 14 102 _ rfl (hdep ⟨14, .guard⟩ (by simp) rfl)
    have hw := wanted_of (ops := opsAg18) (a := a) (o := { dst := some 103, op := Op.move (Operand.tmp 14), type := 27, pos := "law.go:166", after := #[{ on := 14, ground := Ground.guard }], guard := some (14, false) }) (g := 14) (s := 102) (b := false) (b' := false) rfl rfl xg
    replace hw := hw.trans (show (false == false) = true from rfl)
    rw [if_pos hw]
    clear hw xg
    have hfin := hK (.pointer (some ⟨y, 0, none⟩)) w (hG.quiet 15 15 103 _ rfl (by kernel_rfl) (by kernel_rfl))
    have HK := Lib.hid hfin
    clear hG hcl hdep hfr hK hfin hLi 
    go_simp
    exact HK.out
  | 16, ho =>
    simp only [opsAg18, List.getElem?_toArray, List.getElem?_cons_succ, List.getElem?_cons_zero, Option.some.injEq] at ho
    subst ho
    have x103 : a.tmps[103]?.getD undef = .pointer (some ⟨y, 0, none⟩) := by rw [← ev]; exact hG.val 15 15 103 _ rfl (hdep ⟨15, .data⟩ (by simp) rfl)
    have xg : a.tmps[102]?.getD undef = .bool false := by rw [← ev]; exact hG.val 14 14 102 _ rfl (hdep ⟨14, .chain⟩ (by simp) rfl)
    have hw := wanted_of (ops := opsAg18) (a := a) (o := { dst := some 104, op := Op.call { callee := Callee.value (Operand.func 18), args := #[Operand.tmp 103], argTypes := #[27] }, type := 31, pos := "law.go:166", after := #[{ on := 15, ground := Ground.data }, { on := 14, ground := Ground.chain }, { on := 14, ground := Ground.guard }], guard := some (14, false) }) (g := 14) (s := 102) (b := false) (b' := false) rfl rfl xg
    replace hw := hw.trans (show (false == false) = true from rfl)
    rw [if_pos hw]
    clear hw xg
    have hSj := hG.at 0 (16, 104) rfl hLi (fun c h0 hc => absurd h0 (by decide))
    have hfin := fun v w' hs => hK v w' (hG.call 0 (16, 104) rfl hLi (fun c h0 hc => absurd h0 (by decide)) (by kernel_rfl) v w' hs)
    have HK := Lib.hid hfin
    generalize (resOf ag18C fun t => a.eval (.tmp t)) = R at *
    clear hG hcl hdep hfr hK hfin hLi
    have hc := Lib.hid (hc0 _ _ hSj)
    clear hSj hcv hc0 hc1 hc2 hc3
    go_simp
    go_at_call 18
    refine hc.out.mono ?_
    rintro e w' ⟨v, rfl, hs⟩
    exact HK.out v w' hs
  | 17, ho =>
    simp only [opsAg18, List.getElem?_toArray, List.getElem?_cons_succ, List.getElem?_cons_zero, Option.some.injEq] at ho
    subst ho
    have xg : a.tmps[102]?.getD undef = .bool false := by rw [← ev]; exact hG.val 14 14 102 _ rfl (hdep ⟨14, .guard⟩ (by simp) rfl)
    have hw := wanted_of (ops := opsAg18) (a := a) (o := { dst := some 105, op := Op.convert 31 9 (Operand.tmp 104), type := 9, pos := "law.go:166", after := #[{ on := 16, ground := Ground.data }, { on := 14, ground := Ground.guard }], guard := some (14, false) }) (g := 14) (s := 102) (b := false) (b' := false) rfl rfl xg
    replace hw := hw.trans (show (false == false) = true from rfl)
    rw [if_pos hw]
    clear hw xg
    obtain ⟨ph, hSp, hdone⟩ := hG.any
    have hd104 : 0 < ph := hdone 0 (16, 104) rfl (hdep ⟨16, .data⟩ (by simp) rfl)
    have r104 : a.tmps[104]?.getD undef = resOf ag18C (fun t => a.eval (.tmp t)) 0 := by rw [← ev]; exact (resOf_at (C := ag18C) (j := 0) rfl a).symm
    have hfin := hK (.string bs) w (hG.quiet 16 17 105 _ rfl (by kernel_rfl) (by kernel_rfl))
    have HK := Lib.hid hfin
    generalize (resOf ag18C fun t => a.eval (.tmp t)) = R at *
    obtain ⟨A2, c2, q1, q2⟩ := hcv _ _ _ hSp 0 hd104
    rw [q1] at r104
    clear hcv hc0 hc1 hc2 hc3 q1 hd104
    clear hSp hdone
    clear hG hcl hdep hfr hK hfin hLi 
    go_simp
    exact HK.out
  | 18, ho =>
    simp only [opsAg18, List.getElem?_toArray, List.getElem?_cons_succ, List.getElem?_cons_zero, Option.some.injEq] at ho
    subst ho
    have xg : a.tmps[102]?.getD undef = .bool false := by rw [← ev]; exact hG.val 14 14 102 _ rfl (hdep ⟨14, .guard⟩ (by simp) rfl)
    have hw := wanted_of (ops := opsAg18) (a := a) (o := { dst := some 106, op := Op.move (Operand.tmp 11), type := 27, pos := "law.go:166", after := #[{ on := 14, ground := Ground.guard }], guard := some (14, false) }) (g := 14) (s := 102) (b := false) (b' := false) rfl rfl xg
    replace hw := hw.trans (show (false == false) = true from rfl)
    rw [if_pos hw]
    clear hw xg
    have hfin := hK (.pointer (some ⟨x, 0, none⟩)) w (hG.quiet 17 18 106 _ rfl (by kernel_rfl) (by kernel_rfl))
    have HK := Lib.hid hfin
    clear hG hcl hdep hfr hK hfin hLi 
    go_simp
    exact HK.out
  | 19, ho =>
    simp only [opsAg18, List.getElem?_toArray, List.getElem?_cons_succ, List.getElem?_cons_zero, Option.some.injEq] at ho
    subst ho
    have x106 : a.tmps[106]?.getD undef = .pointer (some ⟨x, 0, none⟩) := by rw [← ev]; exact hG.val 17 18 106 _ rfl (hdep ⟨18, .data⟩ (by simp) rfl)
    have xg : a.tmps[102]?.getD undef = .bool false := by rw [← ev]; exact hG.val 14 14 102 _ rfl (hdep ⟨14, .guard⟩ (by simp) rfl)
    have hw := wanted_of (ops := opsAg18) (a := a) (o := { dst := some 107, op := Op.call { callee := Callee.value (Operand.func 18), args := #[Operand.tmp 106], argTypes := #[27] }, type := 31, pos := "law.go:166", after := #[{ on := 18, ground := Ground.data }, { on := 16, ground := Ground.chain }, { on := 14, ground := Ground.guard }], guard := some (14, false) }) (g := 14) (s := 102) (b := false) (b' := false) rfl rfl xg
    replace hw := hw.trans (show (false == false) = true from rfl)
    rw [if_pos hw]
    clear hw xg
    have hSj := hG.at 1 (19, 107) rfl hLi (fun c h0 hc => by simp [ag18C] at hc; subst hc; exact hdep ⟨16, .chain⟩ (by simp) rfl)
    have hfin := fun v w' hs => hK v w' (hG.call 1 (19, 107) rfl hLi (fun c h0 hc => by simp [ag18C] at hc; subst hc; exact hdep ⟨16, .chain⟩ (by simp) rfl) (by kernel_rfl) v w' hs)
    have HK := Lib.hid hfin
    generalize (resOf ag18C fun t => a.eval (.tmp t)) = R at *
    clear hG hcl hdep hfr hK hfin hLi
    have hc := Lib.hid (hc1 _ _ hSj)
    clear hSj hcv hc0 hc1 hc2 hc3
    go_simp
    go_at_call 18
    refine hc.out.mono ?_
    rintro e w' ⟨v, rfl, hs⟩
    exact HK.out v w' hs
  | 20, ho =>
    simp only [opsAg18, List.getElem?_toArray, List.getElem?_cons_succ, List.getElem?_cons_zero, Option.some.injEq] at ho
    subst ho
    have xg : a.tmps[102]?.getD undef = .bool false := by rw [← ev]; exact hG.val 14 14 102 _ rfl (hdep ⟨14, .guard⟩ (by simp) rfl)
    have hw := wanted_of (ops := opsAg18) (a := a) (o := { dst := some 108, op := Op.convert 31 9 (Operand.tmp 107), type := 9, pos := "law.go:166", after := #[{ on := 19, ground := Ground.data }, { on := 14, ground := Ground.guard }], guard := some (14, false) }) (g := 14) (s := 102) (b := false) (b' := false) rfl rfl xg
    replace hw := hw.trans (show (false == false) = true from rfl)
    rw [if_pos hw]
    clear hw xg
    obtain ⟨ph, hSp, hdone⟩ := hG.any
    have hd107 : 1 < ph := hdone 1 (19, 107) rfl (hdep ⟨19, .data⟩ (by simp) rfl)
    have r107 : a.tmps[107]?.getD undef = resOf ag18C (fun t => a.eval (.tmp t)) 1 := by rw [← ev]; exact (resOf_at (C := ag18C) (j := 1) rfl a).symm
    have hfin := hK (.string bs) w (hG.quiet 18 20 108 _ rfl (by kernel_rfl) (by kernel_rfl))
    have HK := Lib.hid hfin
    generalize (resOf ag18C fun t => a.eval (.tmp t)) = R at *
    obtain ⟨A2, c2, q1, q2⟩ := hcv _ _ _ hSp 1 hd107
    rw [q1] at r107
    clear hcv hc0 hc1 hc2 hc3 q1 hd107
    clear hSp hdone
    clear hG hcl hdep hfr hK hfin hLi 
    go_simp
    exact HK.out
  | 21, ho =>
    simp only [opsAg18, List.getElem?_toArray, List.getElem?_cons_succ, List.getElem?_cons_zero, Option.some.injEq] at ho
    subst ho
    have x105 : a.tmps[105]?.getD undef = .string bs := by rw [← ev]; exact hG.val 16 17 105 _ rfl (hdep ⟨17, .data⟩ (by simp) rfl)
    have x108 : a.tmps[108]?.getD undef = .string bs := by rw [← ev]; exact hG.val 18 20 108 _ rfl (hdep ⟨20, .data⟩ (by simp) rfl)
    have xg : a.tmps[102]?.getD undef = .bool false := by rw [← ev]; exact hG.val 14 14 102 _ rfl (hdep ⟨14, .guard⟩ (by simp) rfl)
    have hw := wanted_of (ops := opsAg18) (a := a) (o := { dst := some 109, op := Op.binOp BinOp.neq 9 (Operand.tmp 105) (Operand.tmp 108) 9, type := 4, pos := "law.go:166", after := #[{ on := 17, ground := Ground.data }, { on := 20, ground := Ground.data }, { on := 14, ground := Ground.guard }], guard := some (14, false) }) (g := 14) (s := 102) (b := false) (b' := false) rfl rfl xg
    replace hw := hw.trans (show (false == false) = true from rfl)
    rw [if_pos hw]
    clear hw xg
    have hfin := hK (.bool false) w (hG.quiet 19 21 109 _ rfl (by kernel_rfl) (by kernel_rfl))
    have HK := Lib.hid hfin
    clear hG hcl hdep hfr hK hfin hLi 
    go_simp
    exact HK.out
  | 22, ho =>
    simp only [opsAg18, List.getElem?_toArray, List.getElem?_cons_succ, List.getElem?_cons_zero, Option.some.injEq] at ho
    subst ho
    have x102 : a.tmps[102]?.getD undef = .bool false := by rw [← ev]; exact hG.val 14 14 102 _ rfl (hdep ⟨14, .data⟩ (by simp) rfl)
    have x109 : a.tmps[109]?.getD undef = .bool false := by rw [← ev]; exact hG.val 19 21 109 _ rfl (hdep ⟨21, .data⟩ (by simp) rfl)
    rw [if_pos (show Region.wanted _ _ = true from rfl)]
    have hfin := hK (.bool false) w (hG.quiet 20 22 110 _ rfl (by kernel_rfl) (by kernel_rfl))
    have HK := Lib.hid hfin
    clear hG hcl hdep hfr hK hfin hLi 
    go_simp
    exact HK.out
  | 23, ho =>
    simp only [opsAg18, List.getElem?_toArray, List.getElem?_cons_succ, List.getElem?_cons_zero, Option.some.injEq] at ho
    subst ho
    have x110 : a.tmps[110]?.getD undef = .bool false := by rw [← ev]; exact hG.val 20 22 110 _ rfl (hdep ⟨22, .data⟩ (by simp) rfl)
    rw [if_pos (show Region.wanted _ _ = true from rfl)]
    have hfin := hK (.bool false) w (hG.quiet 21 23 111 _ rfl (by kernel_rfl) (by kernel_rfl))
    have HK := Lib.hid hfin
    clear hG hcl hdep hfr hK hfin hLi 
    go_simp
    exact HK.out
  | 24, ho =>
    simp only [opsAg18, List.getElem?_toArray, List.getElem?_cons_succ, List.getElem?_cons_zero, Option.some.injEq] at ho
    subst ho
    have xg : a.tmps[111]?.getD undef = .bool false := by rw [← ev]; exact hG.val 21 23 111 _ rfl (hdep ⟨23, .guard⟩ (by simp) rfl)
    have hw := wanted_of (ops := opsAg18) (a := a) (o := { dst := some 112, op := Op.move (Operand.tmp 16), type := 27, pos := "law.go:166", after := #[{ on := 23, ground := Ground.guard }], guard := some (23, false) }) (g := 23) (s := 111) (b := false) (b' := false) rfl rfl xg
    replace hw := hw.trans (show (false == false) = true from rfl)
    rw [if_pos hw]
    clear hw xg
    have hfin := hK (.pointer (some ⟨z, 0, none⟩)) w (hG.quiet 22 24 112 _ rfl (by kernel_rfl) (by kernel_rfl))
    have HK := Lib.hid hfin
    clear hG hcl hdep hfr hK hfin hLi 
    go_simp
    exact HK.out
  | 25, ho =>
    simp only [opsAg18, List.getElem?_toArray, List.getElem?_cons_succ, List.getElem?_cons_zero, Option.some.injEq] at ho
    subst ho
    have x112 : a.tmps[112]?.getD undef = .pointer (some ⟨z, 0, none⟩) := by rw [← ev]; exact hG.val 22 24 112 _ rfl (hdep ⟨24, .data⟩ (by simp) rfl)
    have xg : a.tmps[111]?.getD undef = .bool false := by rw [← ev]; exact hG.val 21 23 111 _ rfl (hdep ⟨23, .chain⟩ (by simp) rfl)
    have hw := wanted_of (ops := opsAg18) (a := a) (o := { dst := some 113, op := Op.call { callee := Callee.value (Operand.func 18), args := #[Operand.tmp 112], argTypes := #[27] }, type := 31, pos := "law.go:166", after := #[{ on := 24, ground := Ground.data }, { on := 23, ground := Ground.chain }, { on := 23, ground := Ground.guard }], guard := some (23, false) }) (g := 23) (s := 111) (b := false) (b' := false) rfl rfl xg
    replace hw := hw.trans (show (false == false) = true from rfl)
    rw [if_pos hw]
    clear hw xg
    have hSj := hG.at 2 (25, 113) rfl hLi (fun c h0 hc => by simp [ag18C] at hc; subst hc; exact hcl 23 _ rfl (hdep ⟨23, .chain⟩ (by simp) rfl) ⟨19, .chain⟩ (by simp [opsAg18]) rfl)
    have hfin := fun v w' hs => hK v w' (hG.call 2 (25, 113) rfl hLi (fun c h0 hc => by simp [ag18C] at hc; subst hc; exact hcl 23 _ rfl (hdep ⟨23, .chain⟩ (by simp) rfl) ⟨19, .chain⟩ (by simp [opsAg18]) rfl) (by kernel_rfl) v w' hs)
    have HK := Lib.hid hfin
    generalize (resOf ag18C fun t => a.eval (.tmp t)) = R at *
    clear hG hcl hdep hfr hK hfin hLi
    have hc := Lib.hid (hc2 _ _ hSj)
    clear hSj hcv hc0 hc1 hc2 hc3
    go_simp
    go_at_call 18
    refine hc.out.mono ?_
    rintro e w' ⟨v, rfl, hs⟩
    exact HK.out v w' hs
  | 26, ho =>
    simp only [opsAg18, List.getElem?_toArray, List.getElem?_cons_succ, List.getElem?_cons_zero, Option.some.injEq] at ho
    subst ho
    have xg : a.tmps[111]?.getD undef = .bool false := by rw [← ev]; exact hG.val 21 23 111 _ rfl (hdep ⟨23, .guard⟩ (by simp) rfl)
    have hw := wanted_of (ops := opsAg18) (a := a) (o := { dst := some 114, op := Op.convert 31 9 (Operand.tmp 113), type := 9, pos := "law.go:166", after := #[{ on := 25, ground := Ground.data }, { on := 23, ground := Ground.guard }], guard := some (23, false) }) (g := 23) (s := 111) (b := false) (b' := false) rfl rfl xg
    replace hw := hw.trans (show (false == false) = true from rfl)
    rw [if_pos hw]
    clear hw xg
    obtain ⟨ph, hSp, hdone⟩ := hG.any
    have hd113 : 2 < ph := hdone 2 (25, 113) rfl (hdep ⟨25, .data⟩ (by simp) rfl)
    have r113 : a.tmps[113]?.getD undef = resOf ag18C (fun t => a.eval (.tmp t)) 2 := by rw [← ev]; exact (resOf_at (C := ag18C) (j := 2) rfl a).symm
    have hfin := hK (.string bs) w (hG.quiet 23 26 114 _ rfl (by kernel_rfl) (by kernel_rfl))
    have HK := Lib.hid hfin
    generalize (resOf ag18C fun t => a.eval (.tmp t)) = R at *
    obtain ⟨A2, c2, q1, q2⟩ := hcv _ _ _ hSp 2 hd113
    rw [q1] at r113
    clear hcv hc0 hc1 hc2 hc3 q1 hd113
    clear hSp hdone
    clear hG hcl hdep hfr hK hfin hLi 
    go_simp
    exact HK.out
  | 27, ho =>
    simp only [opsAg18, List.getElem?_toArray, List.getElem?_cons_succ, List.getElem?_cons_zero, Option.some.injEq] at ho
    subst ho
    have xg : a.tmps[111]?.getD undef = .bool false := by rw [← ev]; exact hG.val 21 23 111 _ rfl (hdep ⟨23, .guard⟩ (by simp) rfl)
    have hw := wanted_of (ops := opsAg18) (a := a) (o := { dst := some 115, op := Op.move (Operand.tmp 11), type := 27, pos := "law.go:166", after := #[{ on := 23, ground := Ground.guard }], guard := some (23, false) }) (g := 23) (s := 111) (b := false) (b' := false) rfl rfl xg
    replace hw := hw.trans (show (false == false) = true from rfl)
    rw [if_pos hw]
    clear hw xg
    have hfin := hK (.pointer (some ⟨x, 0, none⟩)) w (hG.quiet 24 27 115 _ rfl (by kernel_rfl) (by kernel_rfl))
    have HK := Lib.hid hfin
    clear hG hcl hdep hfr hK hfin hLi 
    go_simp
    exact HK.out
  | 28, ho =>
    simp only [opsAg18, List.getElem?_toArray, List.getElem?_cons_succ, List.getElem?_cons_zero, Option.some.injEq] at ho
    subst ho
    have x115 : a.tmps[115]?.getD undef = .pointer (some ⟨x, 0, none⟩) := by rw [← ev]; exact hG.val 24 27 115 _ rfl (hdep ⟨27, .data⟩ (by simp) rfl)
    have xg : a.tmps[111]?.getD undef = .bool false := by rw [← ev]; exact hG.val 21 23 111 _ rfl (hdep ⟨23, .guard⟩ (by simp) rfl)
    have hw := wanted_of (ops := opsAg18) (a := a) (o := { dst := some 116, op := Op.call { callee := Callee.value (Operand.func 18), args := #[Operand.tmp 115], argTypes := #[27] }, type := 31, pos := "law.go:166", after := #[{ on := 27, ground := Ground.data }, { on := 25, ground := Ground.chain }, { on := 23, ground := Ground.guard }], guard := some (23, false) }) (g := 23) (s := 111) (b := false) (b' := false) rfl rfl xg
    replace hw := hw.trans (show (false == false) = true from rfl)
    rw [if_pos hw]
    clear hw xg
    have hSj := hG.at 3 (28, 116) rfl hLi (fun c h0 hc => by simp [ag18C] at hc; subst hc; exact hdep ⟨25, .chain⟩ (by simp) rfl)
    have hfin := fun v w' hs => hK v w' (hG.call 3 (28, 116) rfl hLi (fun c h0 hc => by simp [ag18C] at hc; subst hc; exact hdep ⟨25, .chain⟩ (by simp) rfl) (by kernel_rfl) v w' hs)
    have HK := Lib.hid hfin
    generalize (resOf ag18C fun t => a.eval (.tmp t)) = R at *
    clear hG hcl hdep hfr hK hfin hLi
    have hc := Lib.hid (hc3 _ _ hSj)
    clear hSj hcv hc0 hc1 hc2 hc3
    go_simp
    go_at_call 18
    refine hc.out.mono ?_
    rintro e w' ⟨v, rfl, hs⟩
    exact HK.out v w' hs
  | 29, ho =>
    simp only [opsAg18, List.getElem?_toArray, List.getElem?_cons_succ, List.getElem?_cons_zero, Option.some.injEq] at ho
    subst ho
    have xg : a.tmps[111]?.getD undef = .bool false := by rw [← ev]; exact hG.val 21 23 111 _ rfl (hdep ⟨23, .guard⟩ (by simp) rfl)
    have hw := wanted_of (ops := opsAg18) (a := a) (o := { dst := some 117, op := Op.convert 31 9 (Operand.tmp 116), type := 9, pos := "law.go:166", after := #[{ on := 28, ground := Ground.data }, { on := 23, ground := Ground.guard }], guard := some (23, false) }) (g := 23) (s := 111) (b := false) (b' := false) rfl rfl xg
    replace hw := hw.trans (show (false == false) = true from rfl)
    rw [if_pos hw]
    clear hw xg
    obtain ⟨ph, hSp, hdone⟩ := hG.any
    have hd116 : 3 < ph := hdone 3 (28, 116) rfl (hdep ⟨28, .data⟩ (by simp) rfl)
    have r116 : a.tmps[116]?.getD undef = resOf ag18C (fun t => a.eval (.tmp t)) 3 := by rw [← ev]; exact (resOf_at (C := ag18C) (j := 3) rfl a).symm
    have hfin := hK (.string bs) w (hG.quiet 25 29 117 _ rfl (by kernel_rfl) (by kernel_rfl))
    have HK := Lib.hid hfin
    generalize (resOf ag18C fun t => a.eval (.tmp t)) = R at *
    obtain ⟨A2, c2, q1, q2⟩ := hcv _ _ _ hSp 3 hd116
    rw [q1] at r116
    clear hcv hc0 hc1 hc2 hc3 q1 hd116
    clear hSp hdone
    clear hG hcl hdep hfr hK hfin hLi 
    go_simp
    exact HK.out
  | 30, ho =>
    simp only [opsAg18, List.getElem?_toArray, List.getElem?_cons_succ, List.getElem?_cons_zero, Option.some.injEq] at ho
    subst ho
    have x114 : a.tmps[114]?.getD undef = .string bs := by rw [← ev]; exact hG.val 23 26 114 _ rfl (hdep ⟨26, .data⟩ (by simp) rfl)
    have x117 : a.tmps[117]?.getD undef = .string bs := by rw [← ev]; exact hG.val 25 29 117 _ rfl (hdep ⟨29, .data⟩ (by simp) rfl)
    have xg : a.tmps[111]?.getD undef = .bool false := by rw [← ev]; exact hG.val 21 23 111 _ rfl (hdep ⟨23, .guard⟩ (by simp) rfl)
    have hw := wanted_of (ops := opsAg18) (a := a) (o := { dst := some 118, op := Op.binOp BinOp.neq 9 (Operand.tmp 114) (Operand.tmp 117) 9, type := 4, pos := "law.go:166", after := #[{ on := 26, ground := Ground.data }, { on := 29, ground := Ground.data }, { on := 23, ground := Ground.guard }], guard := some (23, false) }) (g := 23) (s := 111) (b := false) (b' := false) rfl rfl xg
    replace hw := hw.trans (show (false == false) = true from rfl)
    rw [if_pos hw]
    clear hw xg
    have hfin := hK (.bool false) w (hG.quiet 26 30 118 _ rfl (by kernel_rfl) (by kernel_rfl))
    have HK := Lib.hid hfin
    clear hG hcl hdep hfr hK hfin hLi 
    go_simp
    exact HK.out
  | 31, ho =>
    simp only [opsAg18, List.getElem?_toArray, List.getElem?_cons_succ, List.getElem?_cons_zero, Option.some.injEq] at ho
    subst ho
    have x111 : a.tmps[111]?.getD undef = .bool false := by rw [← ev]; exact hG.val 21 23 111 _ rfl (hdep ⟨23, .data⟩ (by simp) rfl)
    have x118 : a.tmps[118]?.getD undef = .bool false := by rw [← ev]; exact hG.val 26 30 118 _ rfl (hdep ⟨30, .data⟩ (by simp) rfl)
    rw [if_pos (show Region.wanted _ _ = true from rfl)]
    have hfin := hK (.bool false) w (hG.quiet 27 31 119 _ rfl (by kernel_rfl) (by kernel_rfl))
    have HK := Lib.hid hfin
    clear hG hcl hdep hfr hK hfin hLi 
    go_simp
    exact HK.out
  | n + 32, ho => exact absurd (Array.getElem?_eq_some_iff.1 ho).1 (by show ¬ n + 32 < 32; omega)
end Go.Proofs.YtambddncncaehaaDoor
