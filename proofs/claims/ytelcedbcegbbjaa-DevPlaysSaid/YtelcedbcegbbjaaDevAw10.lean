/- awake's last line: what is read is what was flushed. -/
import Derived.Test.YtelcedbcegbbjaaVals
import Derived.Test.YtelcedbcegbbjaaDevSt
import Derived.WalkKit
import Derived.WalkSpells
import Derived.WalkLawsBesides
import Derived.Lib.Hide
namespace Go.Proofs.Ytelcedbcegbbjaa
open Go.RowKit Dk
set_option linter.unusedVariables false
set_option linter.unusedSimpArgs false

def opsAw10 : Array Oper := #[
  { dst := some 39, op := Op.move (Operand.tmp 3), type := 24, pos := "law.go:31", after := #[], guard := none },
  { dst := some 40, op := Op.binOp BinOp.eql 24 (Operand.tmp 39) (Operand.const (Value.int IntKind.i64 0)) 24, type := 4, pos := "law.go:31", after := #[{ on := 0, ground := Ground.data }], guard := none },
  { dst := some 41, op := Op.move (Operand.tmp 40), type := 4, pos := "law.go:31", after := #[{ on := 1, ground := Ground.data }], guard := none },
  { dst := some 42, op := Op.move (Operand.tmp 4), type := 24, pos := "law.go:31", after := #[{ on := 2, ground := Ground.guard }], guard := some (2, true) },
  { dst := some 43, op := Op.binOp BinOp.eql 24 (Operand.tmp 42) (Operand.const (Value.int IntKind.i64 0)) 24, type := 4, pos := "law.go:31", after := #[{ on := 3, ground := Ground.data }, { on := 2, ground := Ground.guard }], guard := some (2, true) },
  { dst := some 44, op := Op.pick (Operand.tmp 41) (Operand.tmp 43) (Operand.const (Value.bool false)), type := 4, pos := "law.go:31", after := #[{ on := 2, ground := Ground.data }, { on := 4, ground := Ground.data }], guard := none },
  { dst := some 45, op := Op.move (Operand.tmp 44), type := 4, pos := "law.go:31", after := #[{ on := 5, ground := Ground.data }, { on := 2, ground := Ground.chain }], guard := none },
  { dst := some 46, op := Op.move (Operand.tmp 5), type := 24, pos := "law.go:31", after := #[{ on := 6, ground := Ground.guard }], guard := some (6, true) },
  { dst := some 47, op := Op.binOp BinOp.eql 24 (Operand.tmp 46) (Operand.const (Value.int IntKind.i64 0)) 24, type := 4, pos := "law.go:31", after := #[{ on := 7, ground := Ground.data }, { on := 6, ground := Ground.guard }], guard := some (6, true) },
  { dst := some 48, op := Op.pick (Operand.tmp 45) (Operand.tmp 47) (Operand.const (Value.bool false)), type := 4, pos := "law.go:31", after := #[{ on := 6, ground := Ground.data }, { on := 8, ground := Ground.data }], guard := none },
  { dst := some 49, op := Op.move (Operand.tmp 48), type := 4, pos := "law.go:31", after := #[{ on := 9, ground := Ground.data }, { on := 6, ground := Ground.chain }], guard := none },
  { dst := some 50, op := Op.move (Operand.tmp 6), type := 24, pos := "law.go:31", after := #[{ on := 10, ground := Ground.guard }], guard := some (10, true) },
  { dst := some 51, op := Op.binOp BinOp.eql 24 (Operand.tmp 50) (Operand.const (Value.int IntKind.i64 7)) 24, type := 4, pos := "law.go:31", after := #[{ on := 11, ground := Ground.data }, { on := 10, ground := Ground.guard }], guard := some (10, true) },
  { dst := some 52, op := Op.pick (Operand.tmp 49) (Operand.tmp 51) (Operand.const (Value.bool false)), type := 4, pos := "law.go:31", after := #[{ on := 10, ground := Ground.data }, { on := 12, ground := Ground.data }], guard := none },
  { dst := some 53, op := Op.move (Operand.tmp 52), type := 4, pos := "law.go:31", after := #[{ on := 13, ground := Ground.data }, { on := 10, ground := Ground.chain }], guard := none },
  { dst := some 54, op := Op.move (Operand.tmp 8), type := 24, pos := "law.go:31", after := #[{ on := 14, ground := Ground.guard }], guard := some (14, true) },
  { dst := some 55, op := Op.binOp BinOp.eql 24 (Operand.tmp 54) (Operand.const (Value.int IntKind.i64 0)) 24, type := 4, pos := "law.go:31", after := #[{ on := 15, ground := Ground.data }, { on := 14, ground := Ground.guard }], guard := some (14, true) },
  { dst := some 56, op := Op.pick (Operand.tmp 53) (Operand.tmp 55) (Operand.const (Value.bool false)), type := 4, pos := "law.go:31", after := #[{ on := 14, ground := Ground.data }, { on := 16, ground := Ground.data }], guard := none },
  { dst := some 57, op := Op.move (Operand.tmp 56), type := 4, pos := "law.go:31", after := #[{ on := 17, ground := Ground.data }, { on := 14, ground := Ground.chain }], guard := none },
  { dst := some 58, op := Op.move (Operand.tmp 7), type := 28, pos := "law.go:31", after := #[{ on := 18, ground := Ground.guard }], guard := some (18, true) },
  { dst := some 59, op := Op.convert 28 9 (Operand.tmp 58), type := 9, pos := "law.go:31", after := #[{ on := 19, ground := Ground.data }, { on := 18, ground := Ground.guard }], guard := some (18, true) },
  { dst := some 60, op := Op.call { callee := Callee.value (Operand.func 11), args := #[Operand.const (Value.int IntKind.u8 7)], argTypes := #[5] }, type := 28, pos := "law.go:31", after := #[{ on := 18, ground := Ground.chain }, { on := 18, ground := Ground.guard }], guard := some (18, true) },
  { dst := some 61, op := Op.convert 28 9 (Operand.tmp 60), type := 9, pos := "law.go:31", after := #[{ on := 21, ground := Ground.data }, { on := 18, ground := Ground.guard }], guard := some (18, true) },
  { dst := some 62, op := Op.binOp BinOp.eql 9 (Operand.tmp 59) (Operand.tmp 61) 9, type := 4, pos := "law.go:31", after := #[{ on := 20, ground := Ground.data }, { on := 22, ground := Ground.data }, { on := 18, ground := Ground.guard }], guard := some (18, true) },
  { dst := some 63, op := Op.pick (Operand.tmp 57) (Operand.tmp 62) (Operand.const (Value.bool false)), type := 4, pos := "law.go:31", after := #[{ on := 18, ground := Ground.data }, { on := 23, ground := Ground.data }], guard := none },
  { dst := some 0, op := Op.assign (Operand.tmp 63), type := 4, pos := "law.go:31", after := #[{ on := 24, ground := Ground.data }, { on := 21, ground := Ground.chain }, { on := 0, ground := Ground.phase }, { on := 1, ground := Ground.phase }, { on := 2, ground := Ground.phase }, { on := 3, ground := Ground.phase }, { on := 4, ground := Ground.phase }, { on := 5, ground := Ground.phase }, { on := 6, ground := Ground.phase }, { on := 7, ground := Ground.phase }, { on := 8, ground := Ground.phase }, { on := 9, ground := Ground.phase }, { on := 10, ground := Ground.phase }, { on := 11, ground := Ground.phase }, { on := 12, ground := Ground.phase }, { on := 13, ground := Ground.phase }, { on := 14, ground := Ground.phase }, { on := 15, ground := Ground.phase }, { on := 16, ground := Ground.phase }, { on := 17, ground := Ground.phase }, { on := 18, ground := Ground.phase }, { on := 19, ground := Ground.phase }, { on := 20, ground := Ground.phase }, { on := 21, ground := Ground.phase }, { on := 22, ground := Ground.phase }, { on := 23, ground := Ground.phase }, { on := 24, ground := Ground.phase }], guard := none }]

def aw10Vals (A : Option Addr) (n c : Nat) (z : ByteArray) : List (Nat × Nat × Value) := [(0, 39, .int .i64 0), (1, 40, .bool true), (2, 41, .bool true), (3, 42, .int .i64 0), (4, 43, .bool true), (5, 44, .bool true), (6, 45, .bool true), (7, 46, .int .i64 0), (8, 47, .bool true), (9, 48, .bool true), (10, 49, .bool true), (11, 50, .int .i64 7), (12, 51, .bool true), (13, 52, .bool true), (14, 53, .bool true), (15, 54, .int .i64 0), (16, 55, .bool true), (17, 56, .bool true), (18, 57, .bool true), (19, 58, .slice A n c), (20, 59, .string z), (22, 61, .string z), (23, 62, .bool true), (24, 63, .bool true), (25, 0, .bool true)]
def aw10C : List (Nat × Nat) := [(21, 60)]

set_option maxHeartbeats 1600000 in
set_option maxRecDepth 100000 in
theorem aw10 {Q : Exit → Act → World → Prop} {a0 : Act} {wp : World} (A : Option Addr) (n c : Nat) (z : ByteArray) (S : Nat → (Nat → Value) → World → Prop)
    (hsz : 63 < a0.tmps.size) (in3 : a0.eval (.tmp 3) = .int .i64 0) (in4 : a0.eval (.tmp 4) = .int .i64 0) (in5 : a0.eval (.tmp 5) = .int .i64 0) (in6 : a0.eval (.tmp 6) = .int .i64 7) (in7 : a0.eval (.tmp 7) = .slice A n c) (in8 : a0.eval (.tmp 8) = .int .i64 0)
    (hconv : ∀ p R w, S p R w → (convert 28 9 (.slice A n c)).run Try.prog w = .ok (.string z) w) (hconv2 : ∀ p R w, S p R w → 0 < p → ∃ A2, R 0 = .slice A2 512 512 ∧ (convert 28 9 (.slice A2 512 512)).run Try.prog w = .ok (.string z) w) (hcall : ∀ R w, S 0 R w → Calls Try.prog 11 #[.int .u8 7] w fun e w' => ∃ v, e = .returned v ∧ S 1 (setR R 0 v) w')
    (hS : S 0 (resOf aw10C fun t => a0.eval (.tmp t)) wp.drew)
    (fin : ∀ a w, Fr [39, 40, 41, 42, 43, 44, 45, 46, 47, 48, 49, 50, 51, 52, 53, 54, 55, 56, 57, 58, 59, 60, 61, 62, 63, 0] a0 a → a.eval (.tmp 0) = .bool true → S 1 (resOf aw10C fun t => a.eval (.tmp t)) w → Q .normal a w) :
    (Code.region 10 opsAw10 true).wp Try.prog Q a0 wp := by
  refine region_inv (by kernel_rfl) [39, 40, 41, 42, 43, 44, 45, 46, 47, 48, 49, 50, 51, 52, 53, 54, 55, 56, 57, 58, 59, 60, 61, 62, 63, 0] (by kernel_rfl) (by kernel_rfl) (fun t ht => by simp at ht; omega) (GV (aw10Vals A n c z) aw10C S) (.start hS) ?_
    (fun L a w hf hall hG => fin a w hf (hG.val 24 25 0 _ rfl (hall 25 (by decide))) (hG.fin (fun c hc => by simp [aw10C] at hc; subst hc; exact hall _ (by decide))))
  clear hS fin
  intro ix oo ho L a w hfr hG hLi hdep hcl K hK
  have e3 : a.tmps[3]?.getD undef = .int .i64 0 := by rw [← ev]; exact (hfr.same 3 (by decide)).trans in3
  have e4 : a.tmps[4]?.getD undef = .int .i64 0 := by rw [← ev]; exact (hfr.same 4 (by decide)).trans in4
  have e5 : a.tmps[5]?.getD undef = .int .i64 0 := by rw [← ev]; exact (hfr.same 5 (by decide)).trans in5
  have e6 : a.tmps[6]?.getD undef = .int .i64 7 := by rw [← ev]; exact (hfr.same 6 (by decide)).trans in6
  have e7 : a.tmps[7]?.getD undef = .slice A n c := by rw [← ev]; exact (hfr.same 7 (by decide)).trans in7
  have e8 : a.tmps[8]?.getD undef = .int .i64 0 := by rw [← ev]; exact (hfr.same 8 (by decide)).trans in8
  clear in3 in4 in5 in6 in7 in8
  match ix, ho with
  | 0, ho =>
    simp only [opsAw10, List.getElem?_toArray, List.getElem?_cons_zero, Option.some.injEq] at ho
    subst ho
    rw [if_pos (show Region.wanted _ _ = true from rfl)]
    have hfin := hK (.int .i64 0) w (hG.quiet 0 0 39 _ rfl (by kernel_rfl) (by kernel_rfl))
    have HK := Lib.hid hfin
    clear hG hcl hdep hfr hK hfin hLi 
    go_simp
    exact HK.out
  | 1, ho =>
    simp only [opsAw10, List.getElem?_toArray, List.getElem?_cons_succ, List.getElem?_cons_zero, Option.some.injEq] at ho
    subst ho
    have x39 : a.tmps[39]?.getD undef = .int .i64 0 := by rw [← ev]; exact hG.val 0 0 39 _ rfl (hdep ⟨0, .data⟩ (by simp) rfl)
    rw [if_pos (show Region.wanted _ _ = true from rfl)]
    have hfin := hK (.bool true) w (hG.quiet 1 1 40 _ rfl (by kernel_rfl) (by kernel_rfl))
    have HK := Lib.hid hfin
    clear hG hcl hdep hfr hK hfin hLi 
    go_simp
    exact HK.out
  | 2, ho =>
    simp only [opsAw10, List.getElem?_toArray, List.getElem?_cons_succ, List.getElem?_cons_zero, Option.some.injEq] at ho
    subst ho
    have x40 : a.tmps[40]?.getD undef = .bool true := by rw [← ev]; exact hG.val 1 1 40 _ rfl (hdep ⟨1, .data⟩ (by simp) rfl)
    rw [if_pos (show Region.wanted _ _ = true from rfl)]
    have hfin := hK (.bool true) w (hG.quiet 2 2 41 _ rfl (by kernel_rfl) (by kernel_rfl))
    have HK := Lib.hid hfin
    clear hG hcl hdep hfr hK hfin hLi 
    go_simp
    exact HK.out
  | 3, ho =>
    simp only [opsAw10, List.getElem?_toArray, List.getElem?_cons_succ, List.getElem?_cons_zero, Option.some.injEq] at ho
    subst ho
    have xg : a.tmps[41]?.getD undef = .bool true := by rw [← ev]; exact hG.val 2 2 41 _ rfl (hdep ⟨2, .guard⟩ (by simp) rfl)
    have hw := wanted_of (ops := opsAw10) (a := a) (o := { dst := some 42, op := Op.move (Operand.tmp 4), type := 24, pos := "law.go:31", after := #[{ on := 2, ground := Ground.guard }], guard := some (2, true) }) (g := 2) (s := 41) (b := true) (b' := true) rfl rfl xg
    replace hw := hw.trans (show (true == true) = true from rfl)
    rw [if_pos hw]
    clear hw xg
    have hfin := hK (.int .i64 0) w (hG.quiet 3 3 42 _ rfl (by kernel_rfl) (by kernel_rfl))
    have HK := Lib.hid hfin
    clear hG hcl hdep hfr hK hfin hLi 
    go_simp
    exact HK.out
  | 4, ho =>
    simp only [opsAw10, List.getElem?_toArray, List.getElem?_cons_succ, List.getElem?_cons_zero, Option.some.injEq] at ho
    subst ho
    have x42 : a.tmps[42]?.getD undef = .int .i64 0 := by rw [← ev]; exact hG.val 3 3 42 _ rfl (hdep ⟨3, .data⟩ (by simp) rfl)
    have xg : a.tmps[41]?.getD undef = .bool true := by rw [← ev]; exact hG.val 2 2 41 _ rfl (hdep ⟨2, .guard⟩ (by simp) rfl)
    have hw := wanted_of (ops := opsAw10) (a := a) (o := { dst := some 43, op := Op.binOp BinOp.eql 24 (Operand.tmp 42) (Operand.const (Value.int IntKind.i64 0)) 24, type := 4, pos := "law.go:31", after := #[{ on := 3, ground := Ground.data }, { on := 2, ground := Ground.guard }], guard := some (2, true) }) (g := 2) (s := 41) (b := true) (b' := true) rfl rfl xg
    replace hw := hw.trans (show (true == true) = true from rfl)
    rw [if_pos hw]
    clear hw xg
    have hfin := hK (.bool true) w (hG.quiet 4 4 43 _ rfl (by kernel_rfl) (by kernel_rfl))
    have HK := Lib.hid hfin
    clear hG hcl hdep hfr hK hfin hLi 
    go_simp
    exact HK.out
  | 5, ho =>
    simp only [opsAw10, List.getElem?_toArray, List.getElem?_cons_succ, List.getElem?_cons_zero, Option.some.injEq] at ho
    subst ho
    have x41 : a.tmps[41]?.getD undef = .bool true := by rw [← ev]; exact hG.val 2 2 41 _ rfl (hdep ⟨2, .data⟩ (by simp) rfl)
    have x43 : a.tmps[43]?.getD undef = .bool true := by rw [← ev]; exact hG.val 4 4 43 _ rfl (hdep ⟨4, .data⟩ (by simp) rfl)
    rw [if_pos (show Region.wanted _ _ = true from rfl)]
    have hfin := hK (.bool true) w (hG.quiet 5 5 44 _ rfl (by kernel_rfl) (by kernel_rfl))
    have HK := Lib.hid hfin
    clear hG hcl hdep hfr hK hfin hLi 
    go_simp
    exact HK.out
  | 6, ho =>
    simp only [opsAw10, List.getElem?_toArray, List.getElem?_cons_succ, List.getElem?_cons_zero, Option.some.injEq] at ho
    subst ho
    have x44 : a.tmps[44]?.getD undef = .bool true := by rw [← ev]; exact hG.val 5 5 44 _ rfl (hdep ⟨5, .data⟩ (by simp) rfl)
    rw [if_pos (show Region.wanted _ _ = true from rfl)]
    have hfin := hK (.bool true) w (hG.quiet 6 6 45 _ rfl (by kernel_rfl) (by kernel_rfl))
    have HK := Lib.hid hfin
    clear hG hcl hdep hfr hK hfin hLi 
    go_simp
    exact HK.out
  | 7, ho =>
    simp only [opsAw10, List.getElem?_toArray, List.getElem?_cons_succ, List.getElem?_cons_zero, Option.some.injEq] at ho
    subst ho
    have xg : a.tmps[45]?.getD undef = .bool true := by rw [← ev]; exact hG.val 6 6 45 _ rfl (hdep ⟨6, .guard⟩ (by simp) rfl)
    have hw := wanted_of (ops := opsAw10) (a := a) (o := { dst := some 46, op := Op.move (Operand.tmp 5), type := 24, pos := "law.go:31", after := #[{ on := 6, ground := Ground.guard }], guard := some (6, true) }) (g := 6) (s := 45) (b := true) (b' := true) rfl rfl xg
    replace hw := hw.trans (show (true == true) = true from rfl)
    rw [if_pos hw]
    clear hw xg
    have hfin := hK (.int .i64 0) w (hG.quiet 7 7 46 _ rfl (by kernel_rfl) (by kernel_rfl))
    have HK := Lib.hid hfin
    clear hG hcl hdep hfr hK hfin hLi 
    go_simp
    exact HK.out
  | 8, ho =>
    simp only [opsAw10, List.getElem?_toArray, List.getElem?_cons_succ, List.getElem?_cons_zero, Option.some.injEq] at ho
    subst ho
    have x46 : a.tmps[46]?.getD undef = .int .i64 0 := by rw [← ev]; exact hG.val 7 7 46 _ rfl (hdep ⟨7, .data⟩ (by simp) rfl)
    have xg : a.tmps[45]?.getD undef = .bool true := by rw [← ev]; exact hG.val 6 6 45 _ rfl (hdep ⟨6, .guard⟩ (by simp) rfl)
    have hw := wanted_of (ops := opsAw10) (a := a) (o := { dst := some 47, op := Op.binOp BinOp.eql 24 (Operand.tmp 46) (Operand.const (Value.int IntKind.i64 0)) 24, type := 4, pos := "law.go:31", after := #[{ on := 7, ground := Ground.data }, { on := 6, ground := Ground.guard }], guard := some (6, true) }) (g := 6) (s := 45) (b := true) (b' := true) rfl rfl xg
    replace hw := hw.trans (show (true == true) = true from rfl)
    rw [if_pos hw]
    clear hw xg
    have hfin := hK (.bool true) w (hG.quiet 8 8 47 _ rfl (by kernel_rfl) (by kernel_rfl))
    have HK := Lib.hid hfin
    clear hG hcl hdep hfr hK hfin hLi 
    go_simp
    exact HK.out
  | 9, ho =>
    simp only [opsAw10, List.getElem?_toArray, List.getElem?_cons_succ, List.getElem?_cons_zero, Option.some.injEq] at ho
    subst ho
    have x45 : a.tmps[45]?.getD undef = .bool true := by rw [← ev]; exact hG.val 6 6 45 _ rfl (hdep ⟨6, .data⟩ (by simp) rfl)
    have x47 : a.tmps[47]?.getD undef = .bool true := by rw [← ev]; exact hG.val 8 8 47 _ rfl (hdep ⟨8, .data⟩ (by simp) rfl)
    rw [if_pos (show Region.wanted _ _ = true from rfl)]
    have hfin := hK (.bool true) w (hG.quiet 9 9 48 _ rfl (by kernel_rfl) (by kernel_rfl))
    have HK := Lib.hid hfin
    clear hG hcl hdep hfr hK hfin hLi 
    go_simp
    exact HK.out
  | 10, ho =>
    simp only [opsAw10, List.getElem?_toArray, List.getElem?_cons_succ, List.getElem?_cons_zero, Option.some.injEq] at ho
    subst ho
    have x48 : a.tmps[48]?.getD undef = .bool true := by rw [← ev]; exact hG.val 9 9 48 _ rfl (hdep ⟨9, .data⟩ (by simp) rfl)
    rw [if_pos (show Region.wanted _ _ = true from rfl)]
    have hfin := hK (.bool true) w (hG.quiet 10 10 49 _ rfl (by kernel_rfl) (by kernel_rfl))
    have HK := Lib.hid hfin
    clear hG hcl hdep hfr hK hfin hLi 
    go_simp
    exact HK.out
  | 11, ho =>
    simp only [opsAw10, List.getElem?_toArray, List.getElem?_cons_succ, List.getElem?_cons_zero, Option.some.injEq] at ho
    subst ho
    have xg : a.tmps[49]?.getD undef = .bool true := by rw [← ev]; exact hG.val 10 10 49 _ rfl (hdep ⟨10, .guard⟩ (by simp) rfl)
    have hw := wanted_of (ops := opsAw10) (a := a) (o := { dst := some 50, op := Op.move (Operand.tmp 6), type := 24, pos := "law.go:31", after := #[{ on := 10, ground := Ground.guard }], guard := some (10, true) }) (g := 10) (s := 49) (b := true) (b' := true) rfl rfl xg
    replace hw := hw.trans (show (true == true) = true from rfl)
    rw [if_pos hw]
    clear hw xg
    have hfin := hK (.int .i64 7) w (hG.quiet 11 11 50 _ rfl (by kernel_rfl) (by kernel_rfl))
    have HK := Lib.hid hfin
    clear hG hcl hdep hfr hK hfin hLi 
    go_simp
    exact HK.out
  | 12, ho =>
    simp only [opsAw10, List.getElem?_toArray, List.getElem?_cons_succ, List.getElem?_cons_zero, Option.some.injEq] at ho
    subst ho
    have x50 : a.tmps[50]?.getD undef = .int .i64 7 := by rw [← ev]; exact hG.val 11 11 50 _ rfl (hdep ⟨11, .data⟩ (by simp) rfl)
    have xg : a.tmps[49]?.getD undef = .bool true := by rw [← ev]; exact hG.val 10 10 49 _ rfl (hdep ⟨10, .guard⟩ (by simp) rfl)
    have hw := wanted_of (ops := opsAw10) (a := a) (o := { dst := some 51, op := Op.binOp BinOp.eql 24 (Operand.tmp 50) (Operand.const (Value.int IntKind.i64 7)) 24, type := 4, pos := "law.go:31", after := #[{ on := 11, ground := Ground.data }, { on := 10, ground := Ground.guard }], guard := some (10, true) }) (g := 10) (s := 49) (b := true) (b' := true) rfl rfl xg
    replace hw := hw.trans (show (true == true) = true from rfl)
    rw [if_pos hw]
    clear hw xg
    have hfin := hK (.bool true) w (hG.quiet 12 12 51 _ rfl (by kernel_rfl) (by kernel_rfl))
    have HK := Lib.hid hfin
    clear hG hcl hdep hfr hK hfin hLi 
    go_simp
    exact HK.out
  | 13, ho =>
    simp only [opsAw10, List.getElem?_toArray, List.getElem?_cons_succ, List.getElem?_cons_zero, Option.some.injEq] at ho
    subst ho
    have x49 : a.tmps[49]?.getD undef = .bool true := by rw [← ev]; exact hG.val 10 10 49 _ rfl (hdep ⟨10, .data⟩ (by simp) rfl)
    have x51 : a.tmps[51]?.getD undef = .bool true := by rw [← ev]; exact hG.val 12 12 51 _ rfl (hdep ⟨12, .data⟩ (by simp) rfl)
    rw [if_pos (show Region.wanted _ _ = true from rfl)]
    have hfin := hK (.bool true) w (hG.quiet 13 13 52 _ rfl (by kernel_rfl) (by kernel_rfl))
    have HK := Lib.hid hfin
    clear hG hcl hdep hfr hK hfin hLi 
    go_simp
    exact HK.out
  | 14, ho =>
    simp only [opsAw10, List.getElem?_toArray, List.getElem?_cons_succ, List.getElem?_cons_zero, Option.some.injEq] at ho
    subst ho
    have x52 : a.tmps[52]?.getD undef = .bool true := by rw [← ev]; exact hG.val 13 13 52 _ rfl (hdep ⟨13, .data⟩ (by simp) rfl)
    rw [if_pos (show Region.wanted _ _ = true from rfl)]
    have hfin := hK (.bool true) w (hG.quiet 14 14 53 _ rfl (by kernel_rfl) (by kernel_rfl))
    have HK := Lib.hid hfin
    clear hG hcl hdep hfr hK hfin hLi 
    go_simp
    exact HK.out
  | 15, ho =>
    simp only [opsAw10, List.getElem?_toArray, List.getElem?_cons_succ, List.getElem?_cons_zero, Option.some.injEq] at ho
    subst ho
    have xg : a.tmps[53]?.getD undef = .bool true := by rw [← ev]; exact hG.val 14 14 53 _ rfl (hdep ⟨14, .guard⟩ (by simp) rfl)
    have hw := wanted_of (ops := opsAw10) (a := a) (o := { dst := some 54, op := Op.move (Operand.tmp 8), type := 24, pos := "law.go:31", after := #[{ on := 14, ground := Ground.guard }], guard := some (14, true) }) (g := 14) (s := 53) (b := true) (b' := true) rfl rfl xg
    replace hw := hw.trans (show (true == true) = true from rfl)
    rw [if_pos hw]
    clear hw xg
    have hfin := hK (.int .i64 0) w (hG.quiet 15 15 54 _ rfl (by kernel_rfl) (by kernel_rfl))
    have HK := Lib.hid hfin
    clear hG hcl hdep hfr hK hfin hLi 
    go_simp
    exact HK.out
  | 16, ho =>
    simp only [opsAw10, List.getElem?_toArray, List.getElem?_cons_succ, List.getElem?_cons_zero, Option.some.injEq] at ho
    subst ho
    have x54 : a.tmps[54]?.getD undef = .int .i64 0 := by rw [← ev]; exact hG.val 15 15 54 _ rfl (hdep ⟨15, .data⟩ (by simp) rfl)
    have xg : a.tmps[53]?.getD undef = .bool true := by rw [← ev]; exact hG.val 14 14 53 _ rfl (hdep ⟨14, .guard⟩ (by simp) rfl)
    have hw := wanted_of (ops := opsAw10) (a := a) (o := { dst := some 55, op := Op.binOp BinOp.eql 24 (Operand.tmp 54) (Operand.const (Value.int IntKind.i64 0)) 24, type := 4, pos := "law.go:31", after := #[{ on := 15, ground := Ground.data }, { on := 14, ground := Ground.guard }], guard := some (14, true) }) (g := 14) (s := 53) (b := true) (b' := true) rfl rfl xg
    replace hw := hw.trans (show (true == true) = true from rfl)
    rw [if_pos hw]
    clear hw xg
    have hfin := hK (.bool true) w (hG.quiet 16 16 55 _ rfl (by kernel_rfl) (by kernel_rfl))
    have HK := Lib.hid hfin
    clear hG hcl hdep hfr hK hfin hLi 
    go_simp
    exact HK.out
  | 17, ho =>
    simp only [opsAw10, List.getElem?_toArray, List.getElem?_cons_succ, List.getElem?_cons_zero, Option.some.injEq] at ho
    subst ho
    have x53 : a.tmps[53]?.getD undef = .bool true := by rw [← ev]; exact hG.val 14 14 53 _ rfl (hdep ⟨14, .data⟩ (by simp) rfl)
    have x55 : a.tmps[55]?.getD undef = .bool true := by rw [← ev]; exact hG.val 16 16 55 _ rfl (hdep ⟨16, .data⟩ (by simp) rfl)
    rw [if_pos (show Region.wanted _ _ = true from rfl)]
    have hfin := hK (.bool true) w (hG.quiet 17 17 56 _ rfl (by kernel_rfl) (by kernel_rfl))
    have HK := Lib.hid hfin
    clear hG hcl hdep hfr hK hfin hLi 
    go_simp
    exact HK.out
  | 18, ho =>
    simp only [opsAw10, List.getElem?_toArray, List.getElem?_cons_succ, List.getElem?_cons_zero, Option.some.injEq] at ho
    subst ho
    have x56 : a.tmps[56]?.getD undef = .bool true := by rw [← ev]; exact hG.val 17 17 56 _ rfl (hdep ⟨17, .data⟩ (by simp) rfl)
    rw [if_pos (show Region.wanted _ _ = true from rfl)]
    have hfin := hK (.bool true) w (hG.quiet 18 18 57 _ rfl (by kernel_rfl) (by kernel_rfl))
    have HK := Lib.hid hfin
    clear hG hcl hdep hfr hK hfin hLi 
    go_simp
    exact HK.out
  | 19, ho =>
    simp only [opsAw10, List.getElem?_toArray, List.getElem?_cons_succ, List.getElem?_cons_zero, Option.some.injEq] at ho
    subst ho
    have xg : a.tmps[57]?.getD undef = .bool true := by rw [← ev]; exact hG.val 18 18 57 _ rfl (hdep ⟨18, .guard⟩ (by simp) rfl)
    have hw := wanted_of (ops := opsAw10) (a := a) (o := { dst := some 58, op := Op.move (Operand.tmp 7), type := 28, pos := "law.go:31", after := #[{ on := 18, ground := Ground.guard }], guard := some (18, true) }) (g := 18) (s := 57) (b := true) (b' := true) rfl rfl xg
    replace hw := hw.trans (show (true == true) = true from rfl)
    rw [if_pos hw]
    clear hw xg
    have hfin := hK (.slice A n c) w (hG.quiet 19 19 58 _ rfl (by kernel_rfl) (by kernel_rfl))
    have HK := Lib.hid hfin
    clear hG hcl hdep hfr hK hfin hLi 
    go_simp
    exact HK.out
  | 20, ho =>
    simp only [opsAw10, List.getElem?_toArray, List.getElem?_cons_succ, List.getElem?_cons_zero, Option.some.injEq] at ho
    subst ho
    have x58 : a.tmps[58]?.getD undef = .slice A n c := by rw [← ev]; exact hG.val 19 19 58 _ rfl (hdep ⟨19, .data⟩ (by simp) rfl)
    have xg : a.tmps[57]?.getD undef = .bool true := by rw [← ev]; exact hG.val 18 18 57 _ rfl (hdep ⟨18, .guard⟩ (by simp) rfl)
    have hw := wanted_of (ops := opsAw10) (a := a) (o := { dst := some 59, op := Op.convert 28 9 (Operand.tmp 58), type := 9, pos := "law.go:31", after := #[{ on := 19, ground := Ground.data }, { on := 18, ground := Ground.guard }], guard := some (18, true) }) (g := 18) (s := 57) (b := true) (b' := true) rfl rfl xg
    replace hw := hw.trans (show (true == true) = true from rfl)
    rw [if_pos hw]
    clear hw xg
    obtain ⟨ph, hSp, hdone⟩ := hG.any
    have hfin := hK (.string z) w (hG.quiet 20 20 59 _ rfl (by kernel_rfl) (by kernel_rfl))
    have HK := Lib.hid hfin
    generalize (resOf aw10C fun t => a.eval (.tmp t)) = R at *
    have hcv := hconv _ _ _ hSp
    clear hconv hconv2 hcall
    clear hSp hdone
    clear hG hcl hdep hfr hK hfin hLi 
    go_simp
    exact HK.out
  | 21, ho =>
    simp only [opsAw10, List.getElem?_toArray, List.getElem?_cons_succ, List.getElem?_cons_zero, Option.some.injEq] at ho
    subst ho
    have xg : a.tmps[57]?.getD undef = .bool true := by rw [← ev]; exact hG.val 18 18 57 _ rfl (hdep ⟨18, .chain⟩ (by simp) rfl)
    have hw := wanted_of (ops := opsAw10) (a := a) (o := { dst := some 60, op := Op.call { callee := Callee.value (Operand.func 11), args := #[Operand.const (Value.int IntKind.u8 7)], argTypes := #[5] }, type := 28, pos := "law.go:31", after := #[{ on := 18, ground := Ground.chain }, { on := 18, ground := Ground.guard }], guard := some (18, true) }) (g := 18) (s := 57) (b := true) (b' := true) rfl rfl xg
    replace hw := hw.trans (show (true == true) = true from rfl)
    rw [if_pos hw]
    clear hw xg
    have hSj := hG.at 0 (21, 60) rfl hLi (fun c h0 hc => absurd h0 (by decide))
    have hfin := fun v w' hs => hK v w' (hG.call 0 (21, 60) rfl hLi (fun c h0 hc => absurd h0 (by decide)) (by kernel_rfl) v w' hs)
    have HK := Lib.hid hfin
    generalize (resOf aw10C fun t => a.eval (.tmp t)) = R at *
    clear hG hcl hdep hfr hK hfin hLi
    have hc := Lib.hid (hcall _ _ hSj)
    clear hSj hconv hconv2 hcall
    go_simp
    go_at_call 11
    refine hc.out.mono ?_
    rintro e w' ⟨v, rfl, hs⟩
    exact HK.out v w' hs
  | 22, ho =>
    simp only [opsAw10, List.getElem?_toArray, List.getElem?_cons_succ, List.getElem?_cons_zero, Option.some.injEq] at ho
    subst ho
    have xg : a.tmps[57]?.getD undef = .bool true := by rw [← ev]; exact hG.val 18 18 57 _ rfl (hdep ⟨18, .guard⟩ (by simp) rfl)
    have hw := wanted_of (ops := opsAw10) (a := a) (o := { dst := some 61, op := Op.convert 28 9 (Operand.tmp 60), type := 9, pos := "law.go:31", after := #[{ on := 21, ground := Ground.data }, { on := 18, ground := Ground.guard }], guard := some (18, true) }) (g := 18) (s := 57) (b := true) (b' := true) rfl rfl xg
    replace hw := hw.trans (show (true == true) = true from rfl)
    rw [if_pos hw]
    clear hw xg
    obtain ⟨ph, hSp, hdone⟩ := hG.any
    have hd60 : 0 < ph := hdone 0 (21, 60) rfl (hdep ⟨21, .data⟩ (by simp) rfl)
    have r60 : a.tmps[60]?.getD undef = resOf aw10C (fun t => a.eval (.tmp t)) 0 := by rw [← ev]; exact (resOf_at (C := aw10C) (j := 0) rfl a).symm
    have hfin := hK (.string z) w (hG.quiet 21 22 61 _ rfl (by kernel_rfl) (by kernel_rfl))
    have HK := Lib.hid hfin
    generalize (resOf aw10C fun t => a.eval (.tmp t)) = R at *
    obtain ⟨A2, r1, hcv⟩ := hconv2 _ _ _ hSp hd60
    rw [r1] at r60
    clear hconv hconv2 hcall r1 hd60
    clear hSp hdone
    clear hG hcl hdep hfr hK hfin hLi 
    go_simp
    exact HK.out
  | 23, ho =>
    simp only [opsAw10, List.getElem?_toArray, List.getElem?_cons_succ, List.getElem?_cons_zero, Option.some.injEq] at ho
    subst ho
    have x59 : a.tmps[59]?.getD undef = .string z := by rw [← ev]; exact hG.val 20 20 59 _ rfl (hdep ⟨20, .data⟩ (by simp) rfl)
    have x61 : a.tmps[61]?.getD undef = .string z := by rw [← ev]; exact hG.val 21 22 61 _ rfl (hdep ⟨22, .data⟩ (by simp) rfl)
    have xg : a.tmps[57]?.getD undef = .bool true := by rw [← ev]; exact hG.val 18 18 57 _ rfl (hdep ⟨18, .guard⟩ (by simp) rfl)
    have hw := wanted_of (ops := opsAw10) (a := a) (o := { dst := some 62, op := Op.binOp BinOp.eql 9 (Operand.tmp 59) (Operand.tmp 61) 9, type := 4, pos := "law.go:31", after := #[{ on := 20, ground := Ground.data }, { on := 22, ground := Ground.data }, { on := 18, ground := Ground.guard }], guard := some (18, true) }) (g := 18) (s := 57) (b := true) (b' := true) rfl rfl xg
    replace hw := hw.trans (show (true == true) = true from rfl)
    rw [if_pos hw]
    clear hw xg
    have hfin := hK (.bool true) w (hG.quiet 22 23 62 _ rfl (by kernel_rfl) (by kernel_rfl))
    have HK := Lib.hid hfin
    clear hG hcl hdep hfr hK hfin hLi 
    go_simp
    exact HK.out
  | 24, ho =>
    simp only [opsAw10, List.getElem?_toArray, List.getElem?_cons_succ, List.getElem?_cons_zero, Option.some.injEq] at ho
    subst ho
    have x57 : a.tmps[57]?.getD undef = .bool true := by rw [← ev]; exact hG.val 18 18 57 _ rfl (hdep ⟨18, .data⟩ (by simp) rfl)
    have x62 : a.tmps[62]?.getD undef = .bool true := by rw [← ev]; exact hG.val 22 23 62 _ rfl (hdep ⟨23, .data⟩ (by simp) rfl)
    rw [if_pos (show Region.wanted _ _ = true from rfl)]
    have hfin := hK (.bool true) w (hG.quiet 23 24 63 _ rfl (by kernel_rfl) (by kernel_rfl))
    have HK := Lib.hid hfin
    clear hG hcl hdep hfr hK hfin hLi 
    go_simp
    exact HK.out
  | 25, ho =>
    simp only [opsAw10, List.getElem?_toArray, List.getElem?_cons_succ, List.getElem?_cons_zero, Option.some.injEq] at ho
    subst ho
    have x63 : a.tmps[63]?.getD undef = .bool true := by rw [← ev]; exact hG.val 23 24 63 _ rfl (hdep ⟨24, .data⟩ (by simp) rfl)
    rw [if_pos (show Region.wanted _ _ = true from rfl)]
    have hfin := hK (.bool true) w (hG.quiet 24 25 0 _ rfl (by kernel_rfl) (by kernel_rfl))
    have HK := Lib.hid hfin
    clear hG hcl hdep hfr hK hfin hLi 
    go_simp
    exact HK.out
  | n + 26, ho => exact absurd (Array.getElem?_eq_some_iff.1 ho).1 (by show ¬ n + 26 < 26; omega)
end Go.Proofs.Ytelcedbcegbbjaa
