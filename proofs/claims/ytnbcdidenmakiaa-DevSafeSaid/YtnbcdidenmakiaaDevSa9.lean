/- DevSafe's write of an act. -/
import Derived.Test.YtnbcdidenmakiaaVals
import Derived.Test.YtnbcdidenmakiaaDevActs
import Derived.Test.YtnbcdidenmakiaaDevSt
import Derived.WalkKit
import Derived.WalkSpells
import Derived.WalkLawsBesides
import Derived.Lib.Hide
import Derived.Laws.Entries
namespace Go.Proofs.Ytnbcdidenmakiaa
open Go.RowKit Dk
set_option linter.unusedVariables false
set_option linter.unusedSimpArgs false

def opsSa9 : Array Oper := #[
  { dst := some 46, op := Op.move (Operand.tmp 9), type := 23, pos := "law.go:141", after := #[], guard := none },
  { dst := some 47, op := Op.move (Operand.tmp 0), type := 37, pos := "law.go:141", after := #[], guard := none },
  { dst := some 48, op := Op.move (Operand.tmp 11), type := 3, pos := "law.go:141", after := #[], guard := none },
  { dst := some 49, op := Op.indexAddr 37 (Operand.tmp 47) (Operand.tmp 48), type := 0, pos := "law.go:141", after := #[{ on := 1, ground := Ground.data }, { on := 2, ground := Ground.data }], guard := none },
  { dst := some 50, op := Op.fieldAddr 41 (Operand.tmp 49) 1, type := 0, pos := "law.go:141", after := #[{ on := 3, ground := Ground.data }], guard := none },
  { dst := some 51, op := Op.load 3 (Operand.tmp 50), type := 3, pos := "law.go:141", after := #[{ on := 4, ground := Ground.data }], guard := none },
  { dst := some 52, op := Op.binOp BinOp.and 3 (Operand.tmp 51) (Operand.const (Value.int IntKind.i64 7)) 3, type := 3, pos := "law.go:141", after := #[{ on := 5, ground := Ground.data }], guard := none },
  { dst := some 53, op := Op.move (Operand.tmp 0), type := 37, pos := "law.go:141", after := #[], guard := none },
  { dst := some 54, op := Op.move (Operand.tmp 11), type := 3, pos := "law.go:141", after := #[], guard := none },
  { dst := some 55, op := Op.indexAddr 37 (Operand.tmp 53) (Operand.tmp 54), type := 0, pos := "law.go:141", after := #[{ on := 7, ground := Ground.data }, { on := 8, ground := Ground.data }], guard := none },
  { dst := some 56, op := Op.fieldAddr 41 (Operand.tmp 55) 3, type := 0, pos := "law.go:141", after := #[{ on := 9, ground := Ground.data }], guard := none },
  { dst := some 57, op := Op.load 5 (Operand.tmp 56), type := 5, pos := "law.go:141", after := #[{ on := 10, ground := Ground.data }], guard := none },
  { dst := some 58, op := Op.call { callee := Callee.value (Operand.func 11), args := #[Operand.tmp 57], argTypes := #[5] }, type := 28, pos := "law.go:141", after := #[{ on := 11, ground := Ground.data }], guard := none },
  { dst := some 59, op := Op.call { callee := Callee.value (Operand.func 10), args := #[Operand.tmp 46, Operand.tmp 52, Operand.tmp 58], argTypes := #[23, 3, 28] }, type := 24, pos := "law.go:141", after := #[{ on := 0, ground := Ground.data }, { on := 6, ground := Ground.data }, { on := 12, ground := Ground.data }, { on := 12, ground := Ground.chain }], guard := none }]

def sa9Vals (g o n cp d i m : Nat) (x : ActD) : List (Nat × Nat × Value) := [(0, 46, .pointer (some ⟨d, 0, none⟩)), (1, 47, .slice (some ⟨g, o, none⟩) n cp), (2, 48, .int .i64 (i : Int)), (3, 49, .pointer (some ⟨g, o + i * 5, none⟩)), (4, 50, .pointer (some ⟨g, o + i * 5 + 1, none⟩)), (5, 51, .int .i64 x.at_), (6, 52, .int .i64 (m : Int)), (7, 53, .slice (some ⟨g, o, none⟩) n cp), (8, 54, .int .i64 (i : Int)), (9, 55, .pointer (some ⟨g, o + i * 5, none⟩)), (10, 56, .pointer (some ⟨g, o + i * 5 + 3, none⟩)), (11, 57, .int .u8 (x.c.toNat : Int))]
def sa9C : List (Nat × Nat) := [(12, 58), (13, 59)]

set_option maxHeartbeats 1600000 in
set_option maxRecDepth 100000 in
theorem sa9 {Q : Exit → Act → World → Prop} {a0 : Act} {wp : World} (g o n cp d i m : Nat) (x : ActD) (S : Nat → (Nat → Value) → World → Prop)
    (hsz : 59 < a0.tmps.size) (in0 : a0.eval (.tmp 0) = .slice (some ⟨g, o, none⟩) n cp) (in9 : a0.eval (.tmp 9) = .pointer (some ⟨d, 0, none⟩)) (in11 : a0.eval (.tmp 11) = .int .i64 (i : Int))
    (w0 : World) (B : Nat) (hi : i < n) (hcp : n ≤ cp) (hn : n ≤ 100) (hg : g < B) (hx : ActAt w0 B g (o + i * 5) x) (hm : bits .and .i64 x.at_ 7 = (m : Int)) (base : ∀ p R w, S p R w → Below B w0 w)
    (hc1 : ∀ R w, S 0 R w → Calls Try.prog 11 #[.int .u8 (x.c.toNat : Int)] w fun e w' => ∃ v, e = .returned v ∧ S 1 (setR R 0 v) w')
    (hc2 : ∀ R w, S 1 R w → ∃ A2, R 0 = .slice A2 512 512 ∧ Calls Try.prog 10 #[.pointer (some ⟨d, 0, none⟩), .int .i64 (m : Int), .slice A2 512 512] w fun e w' => ∃ v, e = .returned v ∧ S 2 (setR R 1 v) w')
    (hS : S 0 (resOf sa9C fun t => a0.eval (.tmp t)) wp.drew)
    (fin : ∀ a w, Fr [46, 47, 48, 49, 50, 51, 52, 53, 54, 55, 56, 57, 58, 59] a0 a → S 2 (resOf sa9C fun t => a.eval (.tmp t)) w → Q .normal a w) :
    (Code.region 9 opsSa9 true).wp Try.prog Q a0 wp := by
  have i1 : (i : Int) < (n : Int) := by omega
  have i2 : (0 : Int) ≤ (i : Int) := by omega
  refine region_inv (by kernel_rfl) [46, 47, 48, 49, 50, 51, 52, 53, 54, 55, 56, 57, 58, 59] (by kernel_rfl) (by kernel_rfl) (fun t ht => by simp at ht; omega) (GV (sa9Vals g o n cp d i m x) sa9C S) (.start hS) ?_
    (fun L a w hf hall hG => fin a w hf  (hG.fin (fun c hc => by simp [sa9C] at hc; rcases hc with rfl | rfl <;> exact hall _ (by decide))))
  clear hS fin
  intro ix oo ho L a w hfr hG hLi hdep hcl K hK
  have e0 : a.tmps[0]?.getD undef = .slice (some ⟨g, o, none⟩) n cp := by rw [← ev]; exact (hfr.same 0 (by decide)).trans in0
  have e9 : a.tmps[9]?.getD undef = .pointer (some ⟨d, 0, none⟩) := by rw [← ev]; exact (hfr.same 9 (by decide)).trans in9
  have e11 : a.tmps[11]?.getD undef = .int .i64 (i : Int) := by rw [← ev]; exact (hfr.same 11 (by decide)).trans in11
  clear in0 in9 in11
  match ix, ho with
  | 0, ho =>
    simp only [opsSa9, List.getElem?_toArray, List.getElem?_cons_zero, Option.some.injEq] at ho
    subst ho
    rw [if_pos (show Region.wanted _ _ = true from rfl)]
    have hfin := hK (.pointer (some ⟨d, 0, none⟩)) w (hG.quiet 0 0 46 _ rfl (by kernel_rfl) (by kernel_rfl))
    have HK := Lib.hid hfin
    clear hG hcl hdep hfr hK hfin hLi 
    go_simp
    exact HK.out
  | 1, ho =>
    simp only [opsSa9, List.getElem?_toArray, List.getElem?_cons_succ, List.getElem?_cons_zero, Option.some.injEq] at ho
    subst ho
    rw [if_pos (show Region.wanted _ _ = true from rfl)]
    have hfin := hK (.slice (some ⟨g, o, none⟩) n cp) w (hG.quiet 1 1 47 _ rfl (by kernel_rfl) (by kernel_rfl))
    have HK := Lib.hid hfin
    clear hG hcl hdep hfr hK hfin hLi 
    go_simp
    exact HK.out
  | 2, ho =>
    simp only [opsSa9, List.getElem?_toArray, List.getElem?_cons_succ, List.getElem?_cons_zero, Option.some.injEq] at ho
    subst ho
    rw [if_pos (show Region.wanted _ _ = true from rfl)]
    have hfin := hK (.int .i64 (i : Int)) w (hG.quiet 2 2 48 _ rfl (by kernel_rfl) (by kernel_rfl))
    have HK := Lib.hid hfin
    clear hG hcl hdep hfr hK hfin hLi 
    go_simp
    exact HK.out
  | 3, ho =>
    simp only [opsSa9, List.getElem?_toArray, List.getElem?_cons_succ, List.getElem?_cons_zero, Option.some.injEq] at ho
    subst ho
    have x47 : a.tmps[47]?.getD undef = .slice (some ⟨g, o, none⟩) n cp := by rw [← ev]; exact hG.val 1 1 47 _ rfl (hdep ⟨1, .data⟩ (by simp) rfl)
    have x48 : a.tmps[48]?.getD undef = .int .i64 (i : Int) := by rw [← ev]; exact hG.val 2 2 48 _ rfl (hdep ⟨2, .data⟩ (by simp) rfl)
    rw [if_pos (show Region.wanted _ _ = true from rfl)]
    have hfin := hK (.pointer (some ⟨g, o + i * 5, none⟩)) w (hG.quiet 3 3 49 _ rfl (by kernel_rfl) (by kernel_rfl))
    have HK := Lib.hid hfin
    clear hG hcl hdep hfr hK hfin hLi 
    go_simp
    exact HK.out
  | 4, ho =>
    simp only [opsSa9, List.getElem?_toArray, List.getElem?_cons_succ, List.getElem?_cons_zero, Option.some.injEq] at ho
    subst ho
    have x49 : a.tmps[49]?.getD undef = .pointer (some ⟨g, o + i * 5, none⟩) := by rw [← ev]; exact hG.val 3 3 49 _ rfl (hdep ⟨3, .data⟩ (by simp) rfl)
    rw [if_pos (show Region.wanted _ _ = true from rfl)]
    have hfin := hK (.pointer (some ⟨g, o + i * 5 + 1, none⟩)) w (hG.quiet 4 4 50 _ rfl (by kernel_rfl) (by kernel_rfl))
    have HK := Lib.hid hfin
    clear hG hcl hdep hfr hK hfin hLi 
    go_simp
    exact HK.out
  | 5, ho =>
    simp only [opsSa9, List.getElem?_toArray, List.getElem?_cons_succ, List.getElem?_cons_zero, Option.some.injEq] at ho
    subst ho
    have x50 : a.tmps[50]?.getD undef = .pointer (some ⟨g, o + i * 5 + 1, none⟩) := by rw [← ev]; exact hG.val 4 4 50 _ rfl (hdep ⟨4, .data⟩ (by simp) rfl)
    rw [if_pos (show Region.wanted _ _ = true from rfl)]
    obtain ⟨ph, hSp, hdone⟩ := hG.any
    have hfin := hK (.int .i64 x.at_) w (hG.quiet 5 5 51 _ rfl (by kernel_rfl) (by kernel_rfl))
    have HK := Lib.hid hfin
    generalize (resOf sa9C fun t => a.eval (.tmp t)) = R at *
    have hc := ((base _ _ _ hSp).cell (p := ⟨g, o + i * 5 + 1, none⟩) hg).trans hx.at_
    clear hc1 hc2 base hx
    clear hSp hdone
    clear hG hcl hdep hfr hK hfin hLi 
    go_simp
    exact HK.out
  | 6, ho =>
    simp only [opsSa9, List.getElem?_toArray, List.getElem?_cons_succ, List.getElem?_cons_zero, Option.some.injEq] at ho
    subst ho
    have x51 : a.tmps[51]?.getD undef = .int .i64 x.at_ := by rw [← ev]; exact hG.val 5 5 51 _ rfl (hdep ⟨5, .data⟩ (by simp) rfl)
    rw [if_pos (show Region.wanted _ _ = true from rfl)]
    have hfin := hK (.int .i64 (m : Int)) w (hG.quiet 6 6 52 _ rfl (by kernel_rfl) (by kernel_rfl))
    have HK := Lib.hid hfin
    clear hG hcl hdep hfr hK hfin hLi 
    go_simp
    exact HK.out
  | 7, ho =>
    simp only [opsSa9, List.getElem?_toArray, List.getElem?_cons_succ, List.getElem?_cons_zero, Option.some.injEq] at ho
    subst ho
    rw [if_pos (show Region.wanted _ _ = true from rfl)]
    have hfin := hK (.slice (some ⟨g, o, none⟩) n cp) w (hG.quiet 7 7 53 _ rfl (by kernel_rfl) (by kernel_rfl))
    have HK := Lib.hid hfin
    clear hG hcl hdep hfr hK hfin hLi 
    go_simp
    exact HK.out
  | 8, ho =>
    simp only [opsSa9, List.getElem?_toArray, List.getElem?_cons_succ, List.getElem?_cons_zero, Option.some.injEq] at ho
    subst ho
    rw [if_pos (show Region.wanted _ _ = true from rfl)]
    have hfin := hK (.int .i64 (i : Int)) w (hG.quiet 8 8 54 _ rfl (by kernel_rfl) (by kernel_rfl))
    have HK := Lib.hid hfin
    clear hG hcl hdep hfr hK hfin hLi 
    go_simp
    exact HK.out
  | 9, ho =>
    simp only [opsSa9, List.getElem?_toArray, List.getElem?_cons_succ, List.getElem?_cons_zero, Option.some.injEq] at ho
    subst ho
    have x53 : a.tmps[53]?.getD undef = .slice (some ⟨g, o, none⟩) n cp := by rw [← ev]; exact hG.val 7 7 53 _ rfl (hdep ⟨7, .data⟩ (by simp) rfl)
    have x54 : a.tmps[54]?.getD undef = .int .i64 (i : Int) := by rw [← ev]; exact hG.val 8 8 54 _ rfl (hdep ⟨8, .data⟩ (by simp) rfl)
    rw [if_pos (show Region.wanted _ _ = true from rfl)]
    have hfin := hK (.pointer (some ⟨g, o + i * 5, none⟩)) w (hG.quiet 9 9 55 _ rfl (by kernel_rfl) (by kernel_rfl))
    have HK := Lib.hid hfin
    clear hG hcl hdep hfr hK hfin hLi 
    go_simp
    exact HK.out
  | 10, ho =>
    simp only [opsSa9, List.getElem?_toArray, List.getElem?_cons_succ, List.getElem?_cons_zero, Option.some.injEq] at ho
    subst ho
    have x55 : a.tmps[55]?.getD undef = .pointer (some ⟨g, o + i * 5, none⟩) := by rw [← ev]; exact hG.val 9 9 55 _ rfl (hdep ⟨9, .data⟩ (by simp) rfl)
    rw [if_pos (show Region.wanted _ _ = true from rfl)]
    have hfin := hK (.pointer (some ⟨g, o + i * 5 + 3, none⟩)) w (hG.quiet 10 10 56 _ rfl (by kernel_rfl) (by kernel_rfl))
    have HK := Lib.hid hfin
    clear hG hcl hdep hfr hK hfin hLi 
    go_simp
    exact HK.out
  | 11, ho =>
    simp only [opsSa9, List.getElem?_toArray, List.getElem?_cons_succ, List.getElem?_cons_zero, Option.some.injEq] at ho
    subst ho
    have x56 : a.tmps[56]?.getD undef = .pointer (some ⟨g, o + i * 5 + 3, none⟩) := by rw [← ev]; exact hG.val 10 10 56 _ rfl (hdep ⟨10, .data⟩ (by simp) rfl)
    rw [if_pos (show Region.wanted _ _ = true from rfl)]
    obtain ⟨ph, hSp, hdone⟩ := hG.any
    have hfin := hK (.int .u8 (x.c.toNat : Int)) w (hG.quiet 11 11 57 _ rfl (by kernel_rfl) (by kernel_rfl))
    have HK := Lib.hid hfin
    generalize (resOf sa9C fun t => a.eval (.tmp t)) = R at *
    have hc := ((base _ _ _ hSp).cell (p := ⟨g, o + i * 5 + 3, none⟩) hg).trans hx.c
    clear hc1 hc2 base hx
    clear hSp hdone
    clear hG hcl hdep hfr hK hfin hLi 
    go_simp
    exact HK.out
  | 12, ho =>
    simp only [opsSa9, List.getElem?_toArray, List.getElem?_cons_succ, List.getElem?_cons_zero, Option.some.injEq] at ho
    subst ho
    have x57 : a.tmps[57]?.getD undef = .int .u8 (x.c.toNat : Int) := by rw [← ev]; exact hG.val 11 11 57 _ rfl (hdep ⟨11, .data⟩ (by simp) rfl)
    rw [if_pos (show Region.wanted _ _ = true from rfl)]
    have hSj := hG.at 0 (12, 58) rfl hLi (fun c h0 hc => absurd h0 (by decide))
    have hfin := fun v w' hs => hK v w' (hG.call 0 (12, 58) rfl hLi (fun c h0 hc => absurd h0 (by decide)) (by kernel_rfl) v w' hs)
    have HK := Lib.hid hfin
    generalize (resOf sa9C fun t => a.eval (.tmp t)) = R at *
    clear hG hcl hdep hfr hK hfin hLi
    have hc := Lib.hid (hc1 _ _ hSj)
    clear hSj hc1 hc2 base hx
    go_simp
    go_at_call 11
    refine hc.out.mono ?_
    rintro e w' ⟨v, rfl, hs⟩
    exact HK.out v w' hs
  | 13, ho =>
    simp only [opsSa9, List.getElem?_toArray, List.getElem?_cons_succ, List.getElem?_cons_zero, Option.some.injEq] at ho
    subst ho
    have x46 : a.tmps[46]?.getD undef = .pointer (some ⟨d, 0, none⟩) := by rw [← ev]; exact hG.val 0 0 46 _ rfl (hdep ⟨0, .data⟩ (by simp) rfl)
    have x52 : a.tmps[52]?.getD undef = .int .i64 (m : Int) := by rw [← ev]; exact hG.val 6 6 52 _ rfl (hdep ⟨6, .data⟩ (by simp) rfl)
    rw [if_pos (show Region.wanted _ _ = true from rfl)]
    have hSj := hG.at 1 (13, 59) rfl hLi (fun c h0 hc => by simp [sa9C] at hc; subst hc; exact hdep ⟨12, .data⟩ (by simp) rfl)
    have r58 : a.tmps[58]?.getD undef = resOf sa9C (fun t => a.eval (.tmp t)) 0 := by rw [← ev]; exact (resOf_at (C := sa9C) (j := 0) rfl a).symm
    have hfin := fun v w' hs => hK v w' (hG.call 1 (13, 59) rfl hLi (fun c h0 hc => by simp [sa9C] at hc; subst hc; exact hdep ⟨12, .data⟩ (by simp) rfl) (by kernel_rfl) v w' hs)
    have HK := Lib.hid hfin
    generalize (resOf sa9C fun t => a.eval (.tmp t)) = R at *
    clear hG hcl hdep hfr hK hfin hLi
    obtain ⟨A2, hr, hcc⟩ := hc2 _ _ hSj
    rw [hr] at r58
    have hc := Lib.hid hcc
    clear hSj hc1 hc2 base hx hr hcc
    go_simp
    go_at_call 10
    refine hc.out.mono ?_
    rintro e w' ⟨v, rfl, hs⟩
    exact HK.out v w' hs
  | n + 14, ho => exact absurd (Array.getElem?_eq_some_iff.1 ho).1 (by show ¬ n + 14 < 14; omega)
end Go.Proofs.Ytnbcdidenmakiaa
