/- DevLast's write of an act. -/
import Derived.Test.YtelcedbcegbbjaaVals
import Derived.Test.YtelcedbcegbbjaaDevActs
import Derived.Test.YtelcedbcegbbjaaDevSt
import Derived.WalkKit
import Derived.WalkSpells
import Derived.WalkLawsBesides
import Derived.Lib.Hide
import Derived.Laws.Entries
namespace Go.Proofs.Ytelcedbcegbbjaa
open Go.RowKit Dk
set_option linter.unusedVariables false
set_option linter.unusedSimpArgs false

def opsLa12 : Array Oper := #[
  { dst := some 27, op := Op.move (Operand.tmp 3), type := 23, pos := "more.go:61", after := #[], guard := none },
  { dst := some 28, op := Op.move (Operand.tmp 0), type := 37, pos := "more.go:61", after := #[], guard := none },
  { dst := some 29, op := Op.move (Operand.tmp 6), type := 3, pos := "more.go:61", after := #[], guard := none },
  { dst := some 30, op := Op.indexAddr 37 (Operand.tmp 28) (Operand.tmp 29), type := 0, pos := "more.go:61", after := #[{ on := 1, ground := Ground.data }, { on := 2, ground := Ground.data }], guard := none },
  { dst := some 31, op := Op.fieldAddr 41 (Operand.tmp 30) 1, type := 0, pos := "more.go:61", after := #[{ on := 3, ground := Ground.data }], guard := none },
  { dst := some 32, op := Op.load 3 (Operand.tmp 31), type := 3, pos := "more.go:61", after := #[{ on := 4, ground := Ground.data }], guard := none },
  { dst := some 33, op := Op.binOp BinOp.and 3 (Operand.tmp 32) (Operand.const (Value.int IntKind.i64 7)) 3, type := 3, pos := "more.go:61", after := #[{ on := 5, ground := Ground.data }], guard := none },
  { dst := some 34, op := Op.move (Operand.tmp 0), type := 37, pos := "more.go:61", after := #[], guard := none },
  { dst := some 35, op := Op.move (Operand.tmp 6), type := 3, pos := "more.go:61", after := #[], guard := none },
  { dst := some 36, op := Op.indexAddr 37 (Operand.tmp 34) (Operand.tmp 35), type := 0, pos := "more.go:61", after := #[{ on := 7, ground := Ground.data }, { on := 8, ground := Ground.data }], guard := none },
  { dst := some 37, op := Op.fieldAddr 41 (Operand.tmp 36) 3, type := 0, pos := "more.go:61", after := #[{ on := 9, ground := Ground.data }], guard := none },
  { dst := some 38, op := Op.load 5 (Operand.tmp 37), type := 5, pos := "more.go:61", after := #[{ on := 10, ground := Ground.data }], guard := none },
  { dst := some 39, op := Op.call { callee := Callee.value (Operand.func 11), args := #[Operand.tmp 38], argTypes := #[5] }, type := 28, pos := "more.go:61", after := #[{ on := 11, ground := Ground.data }], guard := none },
  { dst := some 40, op := Op.call { callee := Callee.value (Operand.func 10), args := #[Operand.tmp 27, Operand.tmp 33, Operand.tmp 39], argTypes := #[23, 3, 28] }, type := 24, pos := "more.go:61", after := #[{ on := 0, ground := Ground.data }, { on := 6, ground := Ground.data }, { on := 12, ground := Ground.data }, { on := 12, ground := Ground.chain }], guard := none }]

def la12Vals (g o n cp d i m : Nat) (x : ActD) : List (Nat × Nat × Value) := [(0, 27, .pointer (some ⟨d, 0, none⟩)), (1, 28, .slice (some ⟨g, o, none⟩) n cp), (2, 29, .int .i64 (i : Int)), (3, 30, .pointer (some ⟨g, o + i * 5, none⟩)), (4, 31, .pointer (some ⟨g, o + i * 5 + 1, none⟩)), (5, 32, .int .i64 x.at_), (6, 33, .int .i64 (m : Int)), (7, 34, .slice (some ⟨g, o, none⟩) n cp), (8, 35, .int .i64 (i : Int)), (9, 36, .pointer (some ⟨g, o + i * 5, none⟩)), (10, 37, .pointer (some ⟨g, o + i * 5 + 3, none⟩)), (11, 38, .int .u8 (x.c.toNat : Int))]
def la12C : List (Nat × Nat) := [(12, 39), (13, 40)]

set_option maxHeartbeats 1600000 in
set_option maxRecDepth 100000 in
theorem la12 {Q : Exit → Act → World → Prop} {a0 : Act} {wp : World} (g o n cp d i m : Nat) (x : ActD) (S : Nat → (Nat → Value) → World → Prop)
    (hsz : 40 < a0.tmps.size) (in0 : a0.eval (.tmp 0) = .slice (some ⟨g, o, none⟩) n cp) (in3 : a0.eval (.tmp 3) = .pointer (some ⟨d, 0, none⟩)) (in6 : a0.eval (.tmp 6) = .int .i64 (i : Int))
    (w0 : World) (B : Nat) (hi : i < n) (hcp : n ≤ cp) (hn : n ≤ 100) (hg : g < B) (hx : ActAt w0 B g (o + i * 5) x) (hm : bits .and .i64 x.at_ 7 = (m : Int)) (base : ∀ p R w, S p R w → Below B w0 w)
    (hc1 : ∀ R w, S 0 R w → Calls Try.prog 11 #[.int .u8 (x.c.toNat : Int)] w fun e w' => ∃ v, e = .returned v ∧ S 1 (setR R 0 v) w')
    (hc2 : ∀ R w, S 1 R w → ∃ A2, R 0 = .slice A2 512 512 ∧ Calls Try.prog 10 #[.pointer (some ⟨d, 0, none⟩), .int .i64 (m : Int), .slice A2 512 512] w fun e w' => ∃ v, e = .returned v ∧ S 2 (setR R 1 v) w')
    (hS : S 0 (resOf la12C fun t => a0.eval (.tmp t)) wp.drew)
    (fin : ∀ a w, Fr [27, 28, 29, 30, 31, 32, 33, 34, 35, 36, 37, 38, 39, 40] a0 a → S 2 (resOf la12C fun t => a.eval (.tmp t)) w → Q .normal a w) :
    (Code.region 12 opsLa12 true).wp Try.prog Q a0 wp := by
  have i1 : (i : Int) < (n : Int) := by omega
  have i2 : (0 : Int) ≤ (i : Int) := by omega
  refine region_inv (by kernel_rfl) [27, 28, 29, 30, 31, 32, 33, 34, 35, 36, 37, 38, 39, 40] (by kernel_rfl) (by kernel_rfl) (fun t ht => by simp at ht; omega) (GV (la12Vals g o n cp d i m x) la12C S) (.start hS) ?_
    (fun L a w hf hall hG => fin a w hf  (hG.fin (fun c hc => by simp [la12C] at hc; rcases hc with rfl | rfl <;> exact hall _ (by decide))))
  clear hS fin
  intro ix oo ho L a w hfr hG hLi hdep hcl K hK
  have e0 : a.tmps[0]?.getD undef = .slice (some ⟨g, o, none⟩) n cp := by rw [← ev]; exact (hfr.same 0 (by decide)).trans in0
  have e3 : a.tmps[3]?.getD undef = .pointer (some ⟨d, 0, none⟩) := by rw [← ev]; exact (hfr.same 3 (by decide)).trans in3
  have e6 : a.tmps[6]?.getD undef = .int .i64 (i : Int) := by rw [← ev]; exact (hfr.same 6 (by decide)).trans in6
  clear in0 in3 in6
  match ix, ho with
  | 0, ho =>
    simp only [opsLa12, List.getElem?_toArray, List.getElem?_cons_zero, Option.some.injEq] at ho
    subst ho
    rw [if_pos (show Region.wanted _ _ = true from rfl)]
    have hfin := hK (.pointer (some ⟨d, 0, none⟩)) w (hG.quiet 0 0 27 _ rfl (by kernel_rfl) (by kernel_rfl))
    have HK := Lib.hid hfin
    clear hG hcl hdep hfr hK hfin hLi 
    go_simp
    exact HK.out
  | 1, ho =>
    simp only [opsLa12, List.getElem?_toArray, List.getElem?_cons_succ, List.getElem?_cons_zero, Option.some.injEq] at ho
    subst ho
    rw [if_pos (show Region.wanted _ _ = true from rfl)]
    have hfin := hK (.slice (some ⟨g, o, none⟩) n cp) w (hG.quiet 1 1 28 _ rfl (by kernel_rfl) (by kernel_rfl))
    have HK := Lib.hid hfin
    clear hG hcl hdep hfr hK hfin hLi 
    go_simp
    exact HK.out
  | 2, ho =>
    simp only [opsLa12, List.getElem?_toArray, List.getElem?_cons_succ, List.getElem?_cons_zero, Option.some.injEq] at ho
    subst ho
    rw [if_pos (show Region.wanted _ _ = true from rfl)]
    have hfin := hK (.int .i64 (i : Int)) w (hG.quiet 2 2 29 _ rfl (by kernel_rfl) (by kernel_rfl))
    have HK := Lib.hid hfin
    clear hG hcl hdep hfr hK hfin hLi 
    go_simp
    exact HK.out
  | 3, ho =>
    simp only [opsLa12, List.getElem?_toArray, List.getElem?_cons_succ, List.getElem?_cons_zero, Option.some.injEq] at ho
    subst ho
    have x28 : a.tmps[28]?.getD undef = .slice (some ⟨g, o, none⟩) n cp := by rw [← ev]; exact hG.val 1 1 28 _ rfl (hdep ⟨1, .data⟩ (by simp) rfl)
    have x29 : a.tmps[29]?.getD undef = .int .i64 (i : Int) := by rw [← ev]; exact hG.val 2 2 29 _ rfl (hdep ⟨2, .data⟩ (by simp) rfl)
    rw [if_pos (show Region.wanted _ _ = true from rfl)]
    have hfin := hK (.pointer (some ⟨g, o + i * 5, none⟩)) w (hG.quiet 3 3 30 _ rfl (by kernel_rfl) (by kernel_rfl))
    have HK := Lib.hid hfin
    clear hG hcl hdep hfr hK hfin hLi 
    go_simp
    exact HK.out
  | 4, ho =>
    simp only [opsLa12, List.getElem?_toArray, List.getElem?_cons_succ, List.getElem?_cons_zero, Option.some.injEq] at ho
    subst ho
    have x30 : a.tmps[30]?.getD undef = .pointer (some ⟨g, o + i * 5, none⟩) := by rw [← ev]; exact hG.val 3 3 30 _ rfl (hdep ⟨3, .data⟩ (by simp) rfl)
    rw [if_pos (show Region.wanted _ _ = true from rfl)]
    have hfin := hK (.pointer (some ⟨g, o + i * 5 + 1, none⟩)) w (hG.quiet 4 4 31 _ rfl (by kernel_rfl) (by kernel_rfl))
    have HK := Lib.hid hfin
    clear hG hcl hdep hfr hK hfin hLi 
    go_simp
    exact HK.out
  | 5, ho =>
    simp only [opsLa12, List.getElem?_toArray, List.getElem?_cons_succ, List.getElem?_cons_zero, Option.some.injEq] at ho
    subst ho
    have x31 : a.tmps[31]?.getD undef = .pointer (some ⟨g, o + i * 5 + 1, none⟩) := by rw [← ev]; exact hG.val 4 4 31 _ rfl (hdep ⟨4, .data⟩ (by simp) rfl)
    rw [if_pos (show Region.wanted _ _ = true from rfl)]
    obtain ⟨ph, hSp, hdone⟩ := hG.any
    have hfin := hK (.int .i64 x.at_) w (hG.quiet 5 5 32 _ rfl (by kernel_rfl) (by kernel_rfl))
    have HK := Lib.hid hfin
    generalize (resOf la12C fun t => a.eval (.tmp t)) = R at *
    have hc := ((base _ _ _ hSp).cell (p := ⟨g, o + i * 5 + 1, none⟩) hg).trans hx.at_
    clear hc1 hc2 base hx
    clear hSp hdone
    clear hG hcl hdep hfr hK hfin hLi 
    go_simp
    exact HK.out
  | 6, ho =>
    simp only [opsLa12, List.getElem?_toArray, List.getElem?_cons_succ, List.getElem?_cons_zero, Option.some.injEq] at ho
    subst ho
    have x32 : a.tmps[32]?.getD undef = .int .i64 x.at_ := by rw [← ev]; exact hG.val 5 5 32 _ rfl (hdep ⟨5, .data⟩ (by simp) rfl)
    rw [if_pos (show Region.wanted _ _ = true from rfl)]
    have hfin := hK (.int .i64 (m : Int)) w (hG.quiet 6 6 33 _ rfl (by kernel_rfl) (by kernel_rfl))
    have HK := Lib.hid hfin
    clear hG hcl hdep hfr hK hfin hLi 
    go_simp
    exact HK.out
  | 7, ho =>
    simp only [opsLa12, List.getElem?_toArray, List.getElem?_cons_succ, List.getElem?_cons_zero, Option.some.injEq] at ho
    subst ho
    rw [if_pos (show Region.wanted _ _ = true from rfl)]
    have hfin := hK (.slice (some ⟨g, o, none⟩) n cp) w (hG.quiet 7 7 34 _ rfl (by kernel_rfl) (by kernel_rfl))
    have HK := Lib.hid hfin
    clear hG hcl hdep hfr hK hfin hLi 
    go_simp
    exact HK.out
  | 8, ho =>
    simp only [opsLa12, List.getElem?_toArray, List.getElem?_cons_succ, List.getElem?_cons_zero, Option.some.injEq] at ho
    subst ho
    rw [if_pos (show Region.wanted _ _ = true from rfl)]
    have hfin := hK (.int .i64 (i : Int)) w (hG.quiet 8 8 35 _ rfl (by kernel_rfl) (by kernel_rfl))
    have HK := Lib.hid hfin
    clear hG hcl hdep hfr hK hfin hLi 
    go_simp
    exact HK.out
  | 9, ho =>
    simp only [opsLa12, List.getElem?_toArray, List.getElem?_cons_succ, List.getElem?_cons_zero, Option.some.injEq] at ho
    subst ho
    have x34 : a.tmps[34]?.getD undef = .slice (some ⟨g, o, none⟩) n cp := by rw [← ev]; exact hG.val 7 7 34 _ rfl (hdep ⟨7, .data⟩ (by simp) rfl)
    have x35 : a.tmps[35]?.getD undef = .int .i64 (i : Int) := by rw [← ev]; exact hG.val 8 8 35 _ rfl (hdep ⟨8, .data⟩ (by simp) rfl)
    rw [if_pos (show Region.wanted _ _ = true from rfl)]
    have hfin := hK (.pointer (some ⟨g, o + i * 5, none⟩)) w (hG.quiet 9 9 36 _ rfl (by kernel_rfl) (by kernel_rfl))
    have HK := Lib.hid hfin
    clear hG hcl hdep hfr hK hfin hLi 
    go_simp
    exact HK.out
  | 10, ho =>
    simp only [opsLa12, List.getElem?_toArray, List.getElem?_cons_succ, List.getElem?_cons_zero, Option.some.injEq] at ho
    subst ho
    have x36 : a.tmps[36]?.getD undef = .pointer (some ⟨g, o + i * 5, none⟩) := by rw [← ev]; exact hG.val 9 9 36 _ rfl (hdep ⟨9, .data⟩ (by simp) rfl)
    rw [if_pos (show Region.wanted _ _ = true from rfl)]
    have hfin := hK (.pointer (some ⟨g, o + i * 5 + 3, none⟩)) w (hG.quiet 10 10 37 _ rfl (by kernel_rfl) (by kernel_rfl))
    have HK := Lib.hid hfin
    clear hG hcl hdep hfr hK hfin hLi 
    go_simp
    exact HK.out
  | 11, ho =>
    simp only [opsLa12, List.getElem?_toArray, List.getElem?_cons_succ, List.getElem?_cons_zero, Option.some.injEq] at ho
    subst ho
    have x37 : a.tmps[37]?.getD undef = .pointer (some ⟨g, o + i * 5 + 3, none⟩) := by rw [← ev]; exact hG.val 10 10 37 _ rfl (hdep ⟨10, .data⟩ (by simp) rfl)
    rw [if_pos (show Region.wanted _ _ = true from rfl)]
    obtain ⟨ph, hSp, hdone⟩ := hG.any
    have hfin := hK (.int .u8 (x.c.toNat : Int)) w (hG.quiet 11 11 38 _ rfl (by kernel_rfl) (by kernel_rfl))
    have HK := Lib.hid hfin
    generalize (resOf la12C fun t => a.eval (.tmp t)) = R at *
    have hc := ((base _ _ _ hSp).cell (p := ⟨g, o + i * 5 + 3, none⟩) hg).trans hx.c
    clear hc1 hc2 base hx
    clear hSp hdone
    clear hG hcl hdep hfr hK hfin hLi 
    go_simp
    exact HK.out
  | 12, ho =>
    simp only [opsLa12, List.getElem?_toArray, List.getElem?_cons_succ, List.getElem?_cons_zero, Option.some.injEq] at ho
    subst ho
    have x38 : a.tmps[38]?.getD undef = .int .u8 (x.c.toNat : Int) := by rw [← ev]; exact hG.val 11 11 38 _ rfl (hdep ⟨11, .data⟩ (by simp) rfl)
    rw [if_pos (show Region.wanted _ _ = true from rfl)]
    have hSj := hG.at 0 (12, 39) rfl hLi (fun c h0 hc => absurd h0 (by decide))
    have hfin := fun v w' hs => hK v w' (hG.call 0 (12, 39) rfl hLi (fun c h0 hc => absurd h0 (by decide)) (by kernel_rfl) v w' hs)
    have HK := Lib.hid hfin
    generalize (resOf la12C fun t => a.eval (.tmp t)) = R at *
    clear hG hcl hdep hfr hK hfin hLi
    have hc := Lib.hid (hc1 _ _ hSj)
    clear hSj hc1 hc2 base hx
    go_simp
    go_at_call 11
    refine hc.out.mono ?_
    rintro e w' ⟨v, rfl, hs⟩
    exact HK.out v w' hs
  | 13, ho =>
    simp only [opsLa12, List.getElem?_toArray, List.getElem?_cons_succ, List.getElem?_cons_zero, Option.some.injEq] at ho
    subst ho
    have x27 : a.tmps[27]?.getD undef = .pointer (some ⟨d, 0, none⟩) := by rw [← ev]; exact hG.val 0 0 27 _ rfl (hdep ⟨0, .data⟩ (by simp) rfl)
    have x33 : a.tmps[33]?.getD undef = .int .i64 (m : Int) := by rw [← ev]; exact hG.val 6 6 33 _ rfl (hdep ⟨6, .data⟩ (by simp) rfl)
    rw [if_pos (show Region.wanted _ _ = true from rfl)]
    have hSj := hG.at 1 (13, 40) rfl hLi (fun c h0 hc => by simp [la12C] at hc; subst hc; exact hdep ⟨12, .data⟩ (by simp) rfl)
    have r39 : a.tmps[39]?.getD undef = resOf la12C (fun t => a.eval (.tmp t)) 0 := by rw [← ev]; exact (resOf_at (C := la12C) (j := 0) rfl a).symm
    have hfin := fun v w' hs => hK v w' (hG.call 1 (13, 40) rfl hLi (fun c h0 hc => by simp [la12C] at hc; subst hc; exact hdep ⟨12, .data⟩ (by simp) rfl) (by kernel_rfl) v w' hs)
    have HK := Lib.hid hfin
    generalize (resOf la12C fun t => a.eval (.tmp t)) = R at *
    clear hG hcl hdep hfr hK hfin hLi
    obtain ⟨A2, hr, hcc⟩ := hc2 _ _ hSj
    rw [hr] at r39
    have hc := Lib.hid hcc
    clear hSj hc1 hc2 base hx hr hcc
    go_simp
    go_at_call 10
    refine hc.out.mono ?_
    rintro e w' ⟨v, rfl, hs⟩
    exact HK.out v w' hs
  | n + 14, ho => exact absurd (Array.getElem?_eq_some_iff.1 ho).1 (by show ¬ n + 14 < 14; omega)
end Go.Proofs.Ytelcedbcegbbjaa
