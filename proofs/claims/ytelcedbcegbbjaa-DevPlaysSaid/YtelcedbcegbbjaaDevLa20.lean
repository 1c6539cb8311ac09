/- DevLast's test of what is read. -/
import Derived.Test.YtelcedbcegbbjaaVals
import Derived.Test.YtelcedbcegbbjaaDevActs
import Derived.Test.YtelcedbcegbbjaaDevSt
import Derived.WalkKit
import Derived.WalkSpells
import Derived.WalkLawsBesides
import Derived.Lib.Hide
namespace Go.Proofs.Ytelcedbcegbbjaa
open Go.RowKit Dk
set_option linter.unusedVariables false
set_option linter.unusedSimpArgs false

def opsLa20 : Array Oper := #[
  { dst := some 71, op := Op.move (Operand.tmp 9), type := 24, pos := "more.go:68", after := #[], guard := none },
  { dst := some 72, op := Op.binOp BinOp.neq 24 (Operand.tmp 71) (Operand.const (Value.int IntKind.i64 0)) 24, type := 4, pos := "more.go:68", after := #[{ on := 0, ground := Ground.data }], guard := none },
  { dst := some 73, op := Op.move (Operand.tmp 72), type := 4, pos := "more.go:68", after := #[{ on := 1, ground := Ground.data }], guard := none },
  { dst := some 74, op := Op.move (Operand.tmp 8), type := 28, pos := "more.go:68", after := #[{ on := 2, ground := Ground.guard }], guard := some (2, false) },
  { dst := some 75, op := Op.convert 28 9 (Operand.tmp 74), type := 9, pos := "more.go:68", after := #[{ on := 3, ground := Ground.data }, { on := 2, ground := Ground.guard }], guard := some (2, false) },
  { dst := some 76, op := Op.move (Operand.tmp 7), type := 3, pos := "more.go:68", after := #[{ on := 2, ground := Ground.guard }], guard := some (2, false) },
  { dst := some 77, op := Op.indexAddr 51 (Operand.tmp 5) (Operand.tmp 76), type := 0, pos := "more.go:68", after := #[{ on := 5, ground := Ground.data }, { on := 2, ground := Ground.guard }], guard := some (2, false) },
  { dst := some 78, op := Op.load 5 (Operand.tmp 77), type := 5, pos := "more.go:68", after := #[{ on := 6, ground := Ground.data }, { on := 2, ground := Ground.guard }], guard := some (2, false) },
  { dst := some 79, op := Op.call { callee := Callee.value (Operand.func 11), args := #[Operand.tmp 78], argTypes := #[5] }, type := 28, pos := "more.go:68", after := #[{ on := 7, ground := Ground.data }, { on := 2, ground := Ground.chain }, { on := 2, ground := Ground.guard }], guard := some (2, false) },
  { dst := some 80, op := Op.convert 28 9 (Operand.tmp 79), type := 9, pos := "more.go:68", after := #[{ on := 8, ground := Ground.data }, { on := 2, ground := Ground.guard }], guard := some (2, false) },
  { dst := some 81, op := Op.binOp BinOp.neq 9 (Operand.tmp 75) (Operand.tmp 80) 9, type := 4, pos := "more.go:68", after := #[{ on := 4, ground := Ground.data }, { on := 9, ground := Ground.data }, { on := 2, ground := Ground.guard }], guard := some (2, false) },
  { dst := some 82, op := Op.pick (Operand.tmp 73) (Operand.const (Value.bool true)) (Operand.tmp 81), type := 4, pos := "more.go:68", after := #[{ on := 2, ground := Ground.data }, { on := 10, ground := Ground.data }], guard := none }]

def la20Vals (A : Option Addr) (n c lb k : Nat) (x : UInt8) (z : ByteArray) : List (Nat × Nat × Value) := [(0, 71, .int .i64 0), (1, 72, .bool false), (2, 73, .bool false), (3, 74, .slice A n c), (4, 75, .string z), (5, 76, .int .i64 (k : Int)), (6, 77, .pointer (some ⟨lb, k, none⟩)), (7, 78, .int .u8 (x.toNat : Int)), (9, 80, .string z), (10, 81, .bool false), (11, 82, .bool false)]
def la20C : List (Nat × Nat) := [(8, 79)]

set_option maxHeartbeats 1600000 in
set_option maxRecDepth 100000 in
theorem la20 {Q : Exit → Act → World → Prop} {a0 : Act} {wp : World} (A : Option Addr) (n c lb k : Nat) (x : UInt8) (z : ByteArray) (S : Nat → (Nat → Value) → World → Prop)
    (hsz : 82 < a0.tmps.size) (in5 : a0.eval (.tmp 5) = .pointer (some ⟨lb, 0, none⟩)) (in7 : a0.eval (.tmp 7) = .int .i64 (k : Int)) (in8 : a0.eval (.tmp 8) = .slice A n c) (in9 : a0.eval (.tmp 9) = .int .i64 0)
    (hk : k < 8) (hcell : ∀ p R w, S p R w → w.cell? ⟨lb, k, none⟩ = some (.int .u8 (x.toNat : Int)))
    (hconv : ∀ p R w, S p R w → (convert 28 9 (.slice A n c)).run Try.prog w = .ok (.string z) w) (hconv2 : ∀ p R w, S p R w → 0 < p → ∃ A2, R 0 = .slice A2 512 512 ∧ (convert 28 9 (.slice A2 512 512)).run Try.prog w = .ok (.string z) w)
    (hcall : ∀ R w, S 0 R w → Calls Try.prog 11 #[.int .u8 (x.toNat : Int)] w fun e w' => ∃ v, e = .returned v ∧ S 1 (setR R 0 v) w')
    (hS : S 0 (resOf la20C fun t => a0.eval (.tmp t)) wp.drew)
    (fin : ∀ a w, Fr [71, 72, 73, 74, 75, 76, 77, 78, 79, 80, 81, 82] a0 a → a.eval (.tmp 82) = .bool false → S 1 (resOf la20C fun t => a.eval (.tmp t)) w → Q .normal a w) :
    (Code.region 20 opsLa20 true).wp Try.prog Q a0 wp := by
  have k1 : (k : Int) < 8 := by omega
  have k2 : (0 : Int) ≤ (k : Int) := by omega
  refine region_inv (by kernel_rfl) [71, 72, 73, 74, 75, 76, 77, 78, 79, 80, 81, 82] (by kernel_rfl) (by kernel_rfl) (fun t ht => by simp at ht; omega) (GV (la20Vals A n c lb k x z) la20C S) (.start hS) ?_
    (fun L a w hf hall hG => fin a w hf (hG.val 10 11 82 _ rfl (hall 11 (by decide))) (hG.fin (fun c hc => by simp [la20C] at hc; subst hc; exact hall _ (by decide))))
  clear hS fin
  intro ix oo ho L a w hfr hG hLi hdep hcl K hK
  have e5 : a.tmps[5]?.getD undef = .pointer (some ⟨lb, 0, none⟩) := by rw [← ev]; exact (hfr.same 5 (by decide)).trans in5
  have e7 : a.tmps[7]?.getD undef = .int .i64 (k : Int) := by rw [← ev]; exact (hfr.same 7 (by decide)).trans in7
  have e8 : a.tmps[8]?.getD undef = .slice A n c := by rw [← ev]; exact (hfr.same 8 (by decide)).trans in8
  have e9 : a.tmps[9]?.getD undef = .int .i64 0 := by rw [← ev]; exact (hfr.same 9 (by decide)).trans in9
  clear in5 in7 in8 in9
  match ix, ho with
  | 0, ho =>
    simp only [opsLa20, List.getElem?_toArray, List.getElem?_cons_zero, Option.some.injEq] at ho
    subst ho
    rw [if_pos (show Region.wanted _ _ = true from rfl)]
    have hfin := hK (.int .i64 0) w (hG.quiet 0 0 71 _ rfl (by kernel_rfl) (by kernel_rfl))
    have HK := Lib.hid hfin
    clear hG hcl hdep hfr hK hfin hLi 
    go_simp
    exact HK.out
  | 1, ho =>
    simp only [opsLa20, List.getElem?_toArray, List.getElem?_cons_succ, List.getElem?_cons_zero, Option.some.injEq] at ho
    subst ho
    have x71 : a.tmps[71]?.getD undef = .int .i64 0 := by rw [← ev]; exact hG.val 0 0 71 _ rfl (hdep ⟨0, .data⟩ (by simp) rfl)
    rw [if_pos (show Region.wanted _ _ = true from rfl)]
    have hfin := hK (.bool false) w (hG.quiet 1 1 72 _ rfl (by kernel_rfl) (by kernel_rfl))
    have HK := Lib.hid hfin
    clear hG hcl hdep hfr hK hfin hLi 
    go_simp
    exact HK.out
  | 2, ho =>
    simp only [opsLa20, List.getElem?_toArray, List.getElem?_cons_succ, List.getElem?_cons_zero, Option.some.injEq] at ho
    subst ho
    have x72 : a.tmps[72]?.getD undef = .bool false := by rw [← ev]; exact hG.val 1 1 72 _ rfl (hdep ⟨1, .data⟩ (by simp) rfl)
    rw [if_pos (show Region.wanted _ _ = true from rfl)]
    have hfin := hK (.bool false) w (hG.quiet 2 2 73 _ rfl (by kernel_rfl) (by kernel_rfl))
    have HK := Lib.hid hfin
    clear hG hcl hdep hfr hK hfin hLi 
    go_simp
    exact HK.out
  | 3, ho =>
    simp only [opsLa20, List.getElem?_toArray, List.getElem?_cons_succ, List.getElem?_cons_zero, Option.some.injEq] at ho
    subst ho
    have xg : a.tmps[73]?.getD undef = .bool false := by rw [← ev]; exact hG.val 2 2 73 _ rfl (hdep ⟨2, .guard⟩ (by simp) rfl)
    have hw := wanted_of (ops := opsLa20) (a := a) (o := { dst := some 74, op := Op.move (Operand.tmp 8), type := 28, pos := "more.go:68", after := #[{ on := 2, ground := Ground.guard }], guard := some (2, false) }) (g := 2) (s := 73) (b := false) (b' := false) rfl rfl xg
    replace hw := hw.trans (show (false == false) = true from rfl)
    rw [if_pos hw]
    clear hw xg
    have hfin := hK (.slice A n c) w (hG.quiet 3 3 74 _ rfl (by kernel_rfl) (by kernel_rfl))
    have HK := Lib.hid hfin
    clear hG hcl hdep hfr hK hfin hLi 
    go_simp
    exact HK.out
  | 4, ho =>
    simp only [opsLa20, List.getElem?_toArray, List.getElem?_cons_succ, List.getElem?_cons_zero, Option.some.injEq] at ho
    subst ho
    have x74 : a.tmps[74]?.getD undef = .slice A n c := by rw [← ev]; exact hG.val 3 3 74 _ rfl (hdep ⟨3, .data⟩ (by simp) rfl)
    have xg : a.tmps[73]?.getD undef = .bool false := by rw [← ev]; exact hG.val 2 2 73 _ rfl (hdep ⟨2, .guard⟩ (by simp) rfl)
    have hw := wanted_of (ops := opsLa20) (a := a) (o := { dst := some 75, op := Op.convert 28 9 (Operand.tmp 74), type := 9, pos := "more.go:68", after := #[{ on := 3, ground := Ground.data }, { on := 2, ground := Ground.guard }], guard := some (2, false) }) (g := 2) (s := 73) (b := false) (b' := false) rfl rfl xg
    replace hw := hw.trans (show (false == false) = true from rfl)
    rw [if_pos hw]
    clear hw xg
    obtain ⟨ph, hSp, hdone⟩ := hG.any
    have hfin := hK (.string z) w (hG.quiet 4 4 75 _ rfl (by kernel_rfl) (by kernel_rfl))
    have HK := Lib.hid hfin
    generalize (resOf la20C fun t => a.eval (.tmp t)) = R at *
    have hcv := hconv _ _ _ hSp
    clear hconv hconv2 hcall hcell
    clear hSp hdone
    clear hG hcl hdep hfr hK hfin hLi 
    go_simp
    exact HK.out
  | 5, ho =>
    simp only [opsLa20, List.getElem?_toArray, List.getElem?_cons_succ, List.getElem?_cons_zero, Option.some.injEq] at ho
    subst ho
    have xg : a.tmps[73]?.getD undef = .bool false := by rw [← ev]; exact hG.val 2 2 73 _ rfl (hdep ⟨2, .guard⟩ (by simp) rfl)
    have hw := wanted_of (ops := opsLa20) (a := a) (o := { dst := some 76, op := Op.move (Operand.tmp 7), type := 3, pos := "more.go:68", after := #[{ on := 2, ground := Ground.guard }], guard := some (2, false) }) (g := 2) (s := 73) (b := false) (b' := false) rfl rfl xg
    replace hw := hw.trans (show (false == false) = true from rfl)
    rw [if_pos hw]
    clear hw xg
    have hfin := hK (.int .i64 (k : Int)) w (hG.quiet 5 5 76 _ rfl (by kernel_rfl) (by kernel_rfl))
    have HK := Lib.hid hfin
    clear hG hcl hdep hfr hK hfin hLi 
    go_simp
    exact HK.out
  | 6, ho =>
    simp only [opsLa20, List.getElem?_toArray, List.getElem?_cons_succ, List.getElem?_cons_zero, Option.some.injEq] at ho
    subst ho
    have x76 : a.tmps[76]?.getD undef = .int .i64 (k : Int) := by rw [← ev]; exact hG.val 5 5 76 _ rfl (hdep ⟨5, .data⟩ (by simp) rfl)
    have xg : a.tmps[73]?.getD undef = .bool false := by rw [← ev]; exact hG.val 2 2 73 _ rfl (hdep ⟨2, .guard⟩ (by simp) rfl)
    have hw := wanted_of (ops := opsLa20) (a := a) (o := { dst := some 77, op := Op.indexAddr 51 (Operand.tmp 5) (Operand.tmp 76), type := 0, pos := "more.go:68", after := #[{ on := 5, ground := Ground.data }, { on := 2, ground := Ground.guard }], guard := some (2, false) }) (g := 2) (s := 73) (b := false) (b' := false) rfl rfl xg
    replace hw := hw.trans (show (false == false) = true from rfl)
    rw [if_pos hw]
    clear hw xg
    have hfin := hK (.pointer (some ⟨lb, k, none⟩)) w (hG.quiet 6 6 77 _ rfl (by kernel_rfl) (by kernel_rfl))
    have HK := Lib.hid hfin
    clear hG hcl hdep hfr hK hfin hLi 
    go_simp
    exact HK.out
  | 7, ho =>
    simp only [opsLa20, List.getElem?_toArray, List.getElem?_cons_succ, List.getElem?_cons_zero, Option.some.injEq] at ho
    subst ho
    have x77 : a.tmps[77]?.getD undef = .pointer (some ⟨lb, k, none⟩) := by rw [← ev]; exact hG.val 6 6 77 _ rfl (hdep ⟨6, .data⟩ (by simp) rfl)
    have xg : a.tmps[73]?.getD undef = .bool false := by rw [← ev]; exact hG.val 2 2 73 _ rfl (hdep ⟨2, .guard⟩ (by simp) rfl)
    have hw := wanted_of (ops := opsLa20) (a := a) (o := { dst := some 78, op := Op.load 5 (Operand.tmp 77), type := 5, pos := "more.go:68", after := #[{ on := 6, ground := Ground.data }, { on := 2, ground := Ground.guard }], guard := some (2, false) }) (g := 2) (s := 73) (b := false) (b' := false) rfl rfl xg
    replace hw := hw.trans (show (false == false) = true from rfl)
    rw [if_pos hw]
    clear hw xg
    obtain ⟨ph, hSp, hdone⟩ := hG.any
    have hfin := hK (.int .u8 (x.toNat : Int)) w (hG.quiet 7 7 78 _ rfl (by kernel_rfl) (by kernel_rfl))
    have HK := Lib.hid hfin
    generalize (resOf la20C fun t => a.eval (.tmp t)) = R at *
    have hc := hcell _ _ _ hSp
    clear hconv hconv2 hcall hcell
    clear hSp hdone
    clear hG hcl hdep hfr hK hfin hLi 
    go_simp
    exact HK.out
  | 8, ho =>
    simp only [opsLa20, List.getElem?_toArray, List.getElem?_cons_succ, List.getElem?_cons_zero, Option.some.injEq] at ho
    subst ho
    have x78 : a.tmps[78]?.getD undef = .int .u8 (x.toNat : Int) := by rw [← ev]; exact hG.val 7 7 78 _ rfl (hdep ⟨7, .data⟩ (by simp) rfl)
    have xg : a.tmps[73]?.getD undef = .bool false := by rw [← ev]; exact hG.val 2 2 73 _ rfl (hdep ⟨2, .chain⟩ (by simp) rfl)
    have hw := wanted_of (ops := opsLa20) (a := a) (o := { dst := some 79, op := Op.call { callee := Callee.value (Operand.func 11), args := #[Operand.tmp 78], argTypes := #[5] }, type := 28, pos := "more.go:68", after := #[{ on := 7, ground := Ground.data }, { on := 2, ground := Ground.chain }, { on := 2, ground := Ground.guard }], guard := some (2, false) }) (g := 2) (s := 73) (b := false) (b' := false) rfl rfl xg
    replace hw := hw.trans (show (false == false) = true from rfl)
    rw [if_pos hw]
    clear hw xg
    have hSj := hG.at 0 (8, 79) rfl hLi (fun c h0 hc => absurd h0 (by decide))
    have hfin := fun v w' hs => hK v w' (hG.call 0 (8, 79) rfl hLi (fun c h0 hc => absurd h0 (by decide)) (by kernel_rfl) v w' hs)
    have HK := Lib.hid hfin
    generalize (resOf la20C fun t => a.eval (.tmp t)) = R at *
    clear hG hcl hdep hfr hK hfin hLi
    have hc := Lib.hid (hcall _ _ hSj)
    clear hSj hconv hconv2 hcall hcell
    go_simp
    go_at_call 11
    refine hc.out.mono ?_
    rintro e w' ⟨v, rfl, hs⟩
    exact HK.out v w' hs
  | 9, ho =>
    simp only [opsLa20, List.getElem?_toArray, List.getElem?_cons_succ, List.getElem?_cons_zero, Option.some.injEq] at ho
    subst ho
    have xg : a.tmps[73]?.getD undef = .bool false := by rw [← ev]; exact hG.val 2 2 73 _ rfl (hdep ⟨2, .guard⟩ (by simp) rfl)
    have hw := wanted_of (ops := opsLa20) (a := a) (o := { dst := some 80, op := Op.convert 28 9 (Operand.tmp 79), type := 9, pos := "more.go:68", after := #[{ on := 8, ground := Ground.data }, { on := 2, ground := Ground.guard }], guard := some (2, false) }) (g := 2) (s := 73) (b := false) (b' := false) rfl rfl xg
    replace hw := hw.trans (show (false == false) = true from rfl)
    rw [if_pos hw]
    clear hw xg
    obtain ⟨ph, hSp, hdone⟩ := hG.any
    have hd79 : 0 < ph := hdone 0 (8, 79) rfl (hdep ⟨8, .data⟩ (by simp) rfl)
    have r79 : a.tmps[79]?.getD undef = resOf la20C (fun t => a.eval (.tmp t)) 0 := by rw [← ev]; exact (resOf_at (C := la20C) (j := 0) rfl a).symm
    have hfin := hK (.string z) w (hG.quiet 8 9 80 _ rfl (by kernel_rfl) (by kernel_rfl))
    have HK := Lib.hid hfin
    generalize (resOf la20C fun t => a.eval (.tmp t)) = R at *
    obtain ⟨A2, r1, hcv⟩ := hconv2 _ _ _ hSp hd79
    rw [r1] at r79
    clear hconv hconv2 hcall hcell r1 hd79
    clear hSp hdone
    clear hG hcl hdep hfr hK hfin hLi 
    go_simp
    exact HK.out
  | 10, ho =>
    simp only [opsLa20, List.getElem?_toArray, List.getElem?_cons_succ, List.getElem?_cons_zero, Option.some.injEq] at ho
    subst ho
    have x75 : a.tmps[75]?.getD undef = .string z := by rw [← ev]; exact hG.val 4 4 75 _ rfl (hdep ⟨4, .data⟩ (by simp) rfl)
    have x80 : a.tmps[80]?.getD undef = .string z := by rw [← ev]; exact hG.val 8 9 80 _ rfl (hdep ⟨9, .data⟩ (by simp) rfl)
    have xg : a.tmps[73]?.getD undef = .bool false := by rw [← ev]; exact hG.val 2 2 73 _ rfl (hdep ⟨2, .guard⟩ (by simp) rfl)
    have hw := wanted_of (ops := opsLa20) (a := a) (o := { dst := some 81, op := Op.binOp BinOp.neq 9 (Operand.tmp 75) (Operand.tmp 80) 9, type := 4, pos := "more.go:68", after := #[{ on := 4, ground := Ground.data }, { on := 9, ground := Ground.data }, { on := 2, ground := Ground.guard }], guard := some (2, false) }) (g := 2) (s := 73) (b := false) (b' := false) rfl rfl xg
    replace hw := hw.trans (show (false == false) = true from rfl)
    rw [if_pos hw]
    clear hw xg
    have hfin := hK (.bool false) w (hG.quiet 9 10 81 _ rfl (by kernel_rfl) (by kernel_rfl))
    have HK := Lib.hid hfin
    clear hG hcl hdep hfr hK hfin hLi 
    go_simp
    exact HK.out
  | 11, ho =>
    simp only [opsLa20, List.getElem?_toArray, List.getElem?_cons_succ, List.getElem?_cons_zero, Option.some.injEq] at ho
    subst ho
    have x73 : a.tmps[73]?.getD undef = .bool false := by rw [← ev]; exact hG.val 2 2 73 _ rfl (hdep ⟨2, .data⟩ (by simp) rfl)
    have x81 : a.tmps[81]?.getD undef = .bool false := by rw [← ev]; exact hG.val 9 10 81 _ rfl (hdep ⟨10, .data⟩ (by simp) rfl)
    rw [if_pos (show Region.wanted _ _ = true from rfl)]
    have hfin := hK (.bool false) w (hG.quiet 10 11 82 _ rfl (by kernel_rfl) (by kernel_rfl))
    have HK := Lib.hid hfin
    clear hG hcl hdep hfr hK hfin hLi 
    go_simp
    exact HK.out
  | n + 12, ho => exact absurd (Array.getElem?_eq_some_iff.1 ho).1 (by show ¬ n + 12 < 12; omega)
end Go.Proofs.Ytelcedbcegbbjaa
