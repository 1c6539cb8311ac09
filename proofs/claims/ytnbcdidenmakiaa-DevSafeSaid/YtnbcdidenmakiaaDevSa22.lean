/- DevSafe's write of an act. -/
import Derived.Test.YtnbcdidenmakiaaVals
import Derived.Test.YtnbcdidenmakiaaDevActs
import Derived.Test.YtnbcdidenmakiaaDevSt
import Derived.WalkKit
import Derived.WalkSpells
import Derived.WalkLawsBesides
import Derived.Lib.Hide
import Derived.Laws.Entries
namespace Go.Proofs.Ytnbcdidenmakiaa
open Go.RowKit Dk
set_option linter.unusedVariables false
set_option linter.unusedSimpArgs false

def opsSa22 : Array Oper := #[
  { dst := some 83, op := Op.move (Operand.tmp 9), type := 23, pos := "law.go:153", after := #[], guard := none },
  { dst := some 84, op := Op.move (Operand.tmp 1), type := 37, pos := "law.go:153", after := #[], guard := none },
  { dst := some 85, op := Op.move (Operand.tmp 17), type := 3, pos := "law.go:153", after := #[], guard := none },
  { dst := some 86, op := Op.indexAddr 37 (Operand.tmp 84) (Operand.tmp 85), type := 0, pos := "law.go:153", after := #[{ on := 1, ground := Ground.data }, { on := 2, ground := Ground.data }], guard := none },
  { dst := some 87, op := Op.fieldAddr 41 (Operand.tmp 86) 1, type := 0, pos := "law.go:153", after := #[{ on := 3, ground := Ground.data }], guard := none },
  { dst := some 88, op := Op.load 3 (Operand.tmp 87), type := 3, pos := "law.go:153", after := #[{ on := 4, ground := Ground.data }], guard := none },
  { dst := some 89, op := Op.binOp BinOp.and 3 (Operand.tmp 88) (Operand.const (Value.int IntKind.i64 7)) 3, type := 3, pos := "law.go:153", after := #[{ on := 5, ground := Ground.data }], guard := none },
  { dst := some 90, op := Op.move (Operand.tmp 1), type := 37, pos := "law.go:153", after := #[], guard := none },
  { dst := some 91, op := Op.move (Operand.tmp 17), type := 3, pos := "law.go:153", after := #[], guard := none },
  { dst := some 92, op := Op.indexAddr 37 (Operand.tmp 90) (Operand.tmp 91), type := 0, pos := "law.go:153", after := #[{ on := 7, ground := Ground.data }, { on := 8, ground := Ground.data }], guard := none },
  { dst := some 93, op := Op.fieldAddr 41 (Operand.tmp 92) 3, type := 0, pos := "law.go:153", after := #[{ on := 9, ground := Ground.data }], guard := none },
  { dst := some 94, op := Op.load 5 (Operand.tmp 93), type := 5, pos := "law.go:153", after := #[{ on := 10, ground := Ground.data }], guard := none },
  { dst := some 95, op := Op.call { callee := Callee.value (Operand.func 11), args := #[Operand.tmp 94], argTypes := #[5] }, type := 28, pos := "law.go:153", after := #[{ on := 11, ground := Ground.data }], guard := none },
  { dst := some 96, op := Op.call { callee := Callee.value (Operand.func 10), args := #[Operand.tmp 83, Operand.tmp 89, Operand.tmp 95], argTypes := #[23, 3, 28] }, type := 24, pos := "law.go:153", after := #[{ on := 0, ground := Ground.data }, { on := 6, ground := Ground.data }, { on := 12, ground := Ground.data }, { on := 12, ground := Ground.chain }], guard := none }]

def sa22Vals (g o n cp d i m : Nat) (x : ActD) : List (Nat × Nat × Value) := [(0, 83, .pointer (some ⟨d, 0, none⟩)), (1, 84, .slice (some ⟨g, o, none⟩) n cp), (2, 85, .int .i64 (i : Int)), (3, 86, .pointer (some ⟨g, o + i * 5, none⟩)), (4, 87, .pointer (some ⟨g, o + i * 5 + 1, none⟩)), (5, 88, .int .i64 x.at_), (6, 89, .int .i64 (m : Int)), (7, 90, .slice (some ⟨g, o, none⟩) n cp), (8, 91, .int .i64 (i : Int)), (9, 92, .pointer (some ⟨g, o + i * 5, none⟩)), (10, 93, .pointer (some ⟨g, o + i * 5 + 3, none⟩)), (11, 94, .int .u8 (x.c.toNat : Int))]
def sa22C : List (Nat × Nat) := [(12, 95), (13, 96)]

set_option maxHeartbeats 1600000 in
set_option maxRecDepth 100000 in
theorem sa22 {Q : Exit → Act → World → Prop} {a0 : Act} {wp : World} (g o n cp d i m : Nat) (x : ActD) (S : Nat → (Nat → Value) → World → Prop)
    (hsz : 96 < a0.tmps.size) (in1 : a0.eval (.tmp 1) = .slice (some ⟨g, o, none⟩) n cp) (in9 : a0.eval (.tmp 9) = .pointer (some ⟨d, 0, none⟩)) (in17 : a0.eval (.tmp 17) = .int .i64 (i : Int))
    (w0 : World) (B : Nat) (hi : i < n) (hcp : n ≤ cp) (hn : n ≤ 100) (hg : g < B) (hx : ActAt w0 B g (o + i * 5) x) (hm : bits .and .i64 x.at_ 7 = (m : Int)) (base : ∀ p R w, S p R w → Below B w0 w)
    (hc1 : ∀ R w, S 0 R w → Calls Try.prog 11 #[.int .u8 (x.c.toNat : Int)] w fun e w' => ∃ v, e = .returned v ∧ S 1 (setR R 0 v) w')
    (hc2 : ∀ R w, S 1 R w → ∃ A2, R 0 = .slice A2 512 512 ∧ Calls Try.prog 10 #[.pointer (some ⟨d, 0, none⟩), .int .i64 (m : Int), .slice A2 512 512] w fun e w' => ∃ v, e = .returned v ∧ S 2 (setR R 1 v) w')
    (hS : S 0 (resOf sa22C fun t => a0.eval (.tmp t)) wp.drew)
    (fin : ∀ a w, Fr [83, 84, 85, 86, 87, 88, 89, 90, 91, 92, 93, 94, 95, 96] a0 a → S 2 (resOf sa22C fun t => a.eval (.tmp t)) w → Q .normal a w) :
    (Code.region 22 opsSa22 true).wp Try.prog Q a0 wp := by
  have i1 : (i : Int) < (n : Int) := by omega
  have i2 : (0 : Int) ≤ (i : Int) := by omega
  refine region_inv (by kernel_rfl) [83, 84, 85, 86, 87, 88, 89, 90, 91, 92, 93, 94, 95, 96] (by kernel_rfl) (by kernel_rfl) (fun t ht => by simp at ht; omega) (GV (sa22Vals g o n cp d i m x) sa22C S) (.start hS) ?_
    (fun L a w hf hall hG => fin a w hf  (hG.fin (fun c hc => by simp [sa22C] at hc; rcases hc with rfl | rfl <;> exact hall _ (by decide))))
  clear hS fin
  intro ix oo ho L a w hfr hG hLi hdep hcl K hK
  have e1 : a.tmps[1]?.getD undef = .slice (some ⟨g, o, none⟩) n cp := by rw [← ev]; exact (hfr.same 1 (by decide)).trans in1
  have e9 : a.tmps[9]?.getD undef = .pointer (some ⟨d, 0, none⟩) := by rw [← ev]; exact (hfr.same 9 (by decide)).trans in9
  have e17 : a.tmps[17]?.getD undef = .int .i64 (i : Int) := by rw [← ev]; exact (hfr.same 17 (by decide)).trans in17
  clear in1 in9 in17
  match ix, ho with
  | 0, ho =>
    simp only [opsSa22, List.getElem?_toArray, List.getElem?_cons_zero, Option.some.injEq] at ho
    subst ho
    rw [if_pos (show Region.wanted _ _ = true from rfl)]
    have hfin := hK (.pointer (some ⟨d, 0, none⟩)) w (hG.quiet 0 0 83 _ rfl (by kernel_rfl) (by kernel_rfl))
    have HK := Lib.hid hfin
    clear hG hcl hdep hfr hK hfin hLi 
    go_simp
    exact HK.out
  | 1, ho =>
    simp only [opsSa22, List.getElem?_toArray, List.getElem?_cons_succ, List.getElem?_cons_zero, Option.some.injEq] at ho
    subst ho
    rw [if_pos (show Region.wanted _ _ = true from rfl)]
    have hfin := hK (.slice (some ⟨g, o, none⟩) n cp) w (hG.quiet 1 1 84 _ rfl (by kernel_rfl) (by kernel_rfl))
    have HK := Lib.hid hfin
    clear hG hcl hdep hfr hK hfin hLi 
    go_simp
    exact HK.out
  | 2, ho =>
    simp only [opsSa22, List.getElem?_toArray, List.getElem?_cons_succ, List.getElem?_cons_zero, Option.some.injEq] at ho
    subst ho
    rw [if_pos (show Region.wanted _ _ = true from rfl)]
    have hfin := hK (.int .i64 (i : Int)) w (hG.quiet 2 2 85 _ rfl (by kernel_rfl) (by kernel_rfl))
    have HK := Lib.hid hfin
    clear hG hcl hdep hfr hK hfin hLi 
    go_simp
    exact HK.out
  | 3, ho =>
    simp only [opsSa22, List.getElem?_toArray, List.getElem?_cons_succ, List.getElem?_cons_zero, Option.some.injEq] at ho
    subst ho
    have x84 : a.tmps[84]?.getD undef = .slice (some ⟨g, o, none⟩) n cp := by rw [← ev]; exact hG.val 1 1 84 _ rfl (hdep ⟨1, .data⟩ (by simp) rfl)
    have x85 : a.tmps[85]?.getD undef = .int .i64 (i : Int) := by rw [← ev]; exact hG.val 2 2 85 _ rfl (hdep ⟨2, .data⟩ (by simp) rfl)
    rw [if_pos (show Region.wanted _ _ = true from rfl)]
    have hfin := hK (.pointer (some ⟨g, o + i * 5, none⟩)) w (hG.quiet 3 3 86 _ rfl (by kernel_rfl) (by kernel_rfl))
    have HK := Lib.hid hfin
    clear hG hcl hdep hfr hK hfin hLi 
    go_simp
    exact HK.out
  | 4, ho =>
    simp only [opsSa22, List.getElem?_toArray, List.getElem?_cons_succ, List.getElem?_cons_zero, Option.some.injEq] at ho
    subst ho
    have x86 : a.tmps[86]?.getD undef = .pointer (some ⟨g, o + i * 5, none⟩) := by rw [← ev]; exact hG.val 3 3 86 _ rfl (hdep ⟨3, .data⟩ (by simp) rfl)
    rw [if_pos (show Region.wanted _ _ = true from rfl)]
    have hfin := hK (.pointer (some ⟨g, o + i * 5 + 1, none⟩)) w (hG.quiet 4 4 87 _ rfl (by kernel_rfl) (by kernel_rfl))
    have HK := Lib.hid hfin
    clear hG hcl hdep hfr hK hfin hLi 
    go_simp
    exact HK.out
  | 5, ho =>
    simp only [opsSa22, List.getElem?_toArray, List.getElem?_cons_succ, List.getElem?_cons_zero, Option.some.injEq] at ho
    subst ho
    have x87 : a.tmps[87]?.getD undef = .pointer (some ⟨g, o + i * 5 + 1, none⟩) := by rw [← ev]; exact hG.val 4 4 87 _ rfl (hdep ⟨4, .data⟩ (by simp) rfl)
    rw [if_pos (show Region.wanted _ _ = true from rfl)]
    obtain ⟨ph, hSp, hdone⟩ := hG.any
    have hfin := hK (.int .i64 x.at_) w (hG.quiet 5 5 88 _ rfl (by kernel_rfl) (by kernel_rfl))
    have HK := Lib.hid hfin
    generalize (resOf sa22C fun t => a.eval (.tmp t)) = R at *
    have hc := ((base _ _ _ hSp).cell (p := ⟨g, o + i * 5 + 1, none⟩) hg).trans hx.at_
    clear hc1 hc2 base hx
    clear hSp hdone
    clear hG hcl hdep hfr hK hfin hLi 
    go_simp
    exact HK.out
  | 6, ho =>
    simp only [opsSa22, List.getElem?_toArray, List.getElem?_cons_succ, List.getElem?_cons_zero, Option.some.injEq] at ho
    subst ho
    have x88 : a.tmps[88]?.getD undef = .int .i64 x.at_ := by rw [← ev]; exact hG.val 5 5 88 _ rfl (hdep ⟨5, .data⟩ (by simp) rfl)
    rw [if_pos (show Region.wanted _ _ = true from rfl)]
    have hfin := hK (.int .i64 (m : Int)) w (hG.quiet 6 6 89 _ rfl (by kernel_rfl) (by kernel_rfl))
    have HK := Lib.hid hfin
    clear hG hcl hdep hfr hK hfin hLi 
    go_simp
    exact HK.out
  | 7, ho =>
    simp only [opsSa22, List.getElem?_toArray, List.getElem?_cons_succ, List.getElem?_cons_zero, Option.some.injEq] at ho
    subst ho
    rw [if_pos (show Region.wanted _ _ = true from rfl)]
    have hfin := hK (.slice (some ⟨g, o, none⟩) n cp) w (hG.quiet 7 7 90 _ rfl (by kernel_rfl) (by kernel_rfl))
    have HK := Lib.hid hfin
    clear hG hcl hdep hfr hK hfin hLi 
    go_simp
    exact HK.out
  | 8, ho =>
    simp only [opsSa22, List.getElem?_toArray, List.getElem?_cons_succ, List.getElem?_cons_zero, Option.some.injEq] at ho
    subst ho
    rw [if_pos (show Region.wanted _ _ = true from rfl)]
    have hfin := hK (.int .i64 (i : Int)) w (hG.quiet 8 8 91 _ rfl (by kernel_rfl) (by kernel_rfl))
    have HK := Lib.hid hfin
    clear hG hcl hdep hfr hK hfin hLi 
    go_simp
    exact HK.out
  | 9, ho =>
    simp only [opsSa22, List.getElem?_toArray, List.getElem?_cons_succ, List.getElem?_cons_zero, Option.some.injEq] at ho
    subst ho
    have x90 : a.tmps[90]?.getD undef = .slice (some ⟨g, o, none⟩) n cp := by rw [← ev]; exact hG.val 7 7 90 _ rfl (hdep ⟨7, .data⟩ (by simp) rfl)
    have x91 : a.tmps[91]?.getD undef = .int .i64 (i : Int) := by rw [← ev]; exact hG.val 8 8 91 _ rfl (hdep ⟨8, .data⟩ (by simp) rfl)
    rw [if_pos (show Region.wanted _ _ = true from rfl)]
    have hfin := hK (.pointer (some ⟨g, o + i * 5, none⟩)) w (hG.quiet 9 9 92 _ rfl (by kernel_rfl) (by kernel_rfl))
    have HK := Lib.hid hfin
    clear hG hcl hdep hfr hK hfin hLi 
    go_simp
    exact HK.out
  | 10, ho =>
    simp only [opsSa22, List.getElem?_toArray, List.getElem?_cons_succ, List.getElem?_cons_zero, Option.some.injEq] at ho
    subst ho
    have x92 : a.tmps[92]?.getD undef = .pointer (some ⟨g, o + i * 5, none⟩) := by rw [← ev]; exact hG.val 9 9 92 _ rfl (hdep ⟨9, .data⟩ (by simp) rfl)
    rw [if_pos (show Region.wanted _ _ = true from rfl)]
    have hfin := hK (.pointer (some ⟨g, o + i * 5 + 3, none⟩)) w (hG.quiet 10 10 93 _ rfl (by kernel_rfl) (by kernel_rfl))
    have HK := Lib.hid hfin
    clear hG hcl hdep hfr hK hfin hLi 
    go_simp
    exact HK.out
  | 11, ho =>
    simp only [opsSa22, List.getElem?_toArray, List.getElem?_cons_succ, List.getElem?_cons_zero, Option.some.injEq] at ho
    subst ho
    have x93 : a.tmps[93]?.getD undef = .pointer (some ⟨g, o + i * 5 + 3, none⟩) := by rw [← ev]; exact hG.val 10 10 93 _ rfl (hdep ⟨10, .data⟩ (by simp) rfl)
    rw [if_pos (show Region.wanted _ _ = true from rfl)]
    obtain ⟨ph, hSp, hdone⟩ := hG.any
    have hfin := hK (.int .u8 (x.c.toNat : Int)) w (hG.quiet 11 11 94 _ rfl (by kernel_rfl) (by kernel_rfl))
    have HK := Lib.hid hfin
    generalize (resOf sa22C fun t => a.eval (.tmp t)) = R at *
    have hc := ((base _ _ _ hSp).cell (p := ⟨g, o + i * 5 + 3, none⟩) hg).trans hx.c
    clear hc1 hc2 base hx
    clear hSp hdone
    clear hG hcl hdep hfr hK hfin hLi 
    go_simp
    exact HK.out
  | 12, ho =>
    simp only [opsSa22, List.getElem?_toArray, List.getElem?_cons_succ, List.getElem?_cons_zero, Option.some.injEq] at ho
    subst ho
    have x94 : a.tmps[94]?.getD undef = .int .u8 (x.c.toNat : Int) := by rw [← ev]; exact hG.val 11 11 94 _ rfl (hdep ⟨11, .data⟩ (by simp) rfl)
    rw [if_pos (show Region.wanted _ _ = true from rfl)]
    have hSj := hG.at 0 (12, 95) rfl hLi (fun c h0 hc => absurd h0 (by decide))
    have hfin := fun v w' hs => hK v w' (hG.call 0 (12, 95) rfl hLi (fun c h0 hc => absurd h0 (by decide)) (by kernel_rfl) v w' hs)
    have HK := Lib.hid hfin
    generalize (resOf sa22C fun t => a.eval (.tmp t)) = R at *
    clear hG hcl hdep hfr hK hfin hLi
    have hc := Lib.hid (hc1 _ _ hSj)
    clear hSj hc1 hc2 base hx
    go_simp
    go_at_call 11
    refine hc.out.mono ?_
    rintro e w' ⟨v, rfl, hs⟩
    exact HK.out v w' hs
  | 13, ho =>
    simp only [opsSa22, List.getElem?_toArray, List.getElem?_cons_succ, List.getElem?_cons_zero, Option.some.injEq] at ho
    subst ho
    have x83 : a.tmps[83]?.getD undef = .pointer (some ⟨d, 0, none⟩) := by rw [← ev]; exact hG.val 0 0 83 _ rfl (hdep ⟨0, .data⟩ (by simp) rfl)
    have x89 : a.tmps[89]?.getD undef = .int .i64 (m : Int) := by rw [← ev]; exact hG.val 6 6 89 _ rfl (hdep ⟨6, .data⟩ (by simp) rfl)
    rw [if_pos (show Region.wanted _ _ = true from rfl)]
    have hSj := hG.at 1 (13, 96) rfl hLi (fun c h0 hc => by simp [sa22C] at hc; subst hc; exact hdep ⟨12, .data⟩ (by simp) rfl)
    have r95 : a.tmps[95]?.getD undef = resOf sa22C (fun t => a.eval (.tmp t)) 0 := by rw [← ev]; exact (resOf_at (C := sa22C) (j := 0) rfl a).symm
    have hfin := fun v w' hs => hK v w' (hG.call 1 (13, 96) rfl hLi (fun c h0 hc => by simp [sa22C] at hc; subst hc; exact hdep ⟨12, .data⟩ (by simp) rfl) (by kernel_rfl) v w' hs)
    have HK := Lib.hid hfin
    generalize (resOf sa22C fun t => a.eval (.tmp t)) = R at *
    clear hG hcl hdep hfr hK hfin hLi
    obtain ⟨A2, hr, hcc⟩ := hc2 _ _ hSj
    rw [hr] at r95
    have hc := Lib.hid hcc
    clear hSj hc1 hc2 base hx hr hcc
    go_simp
    go_at_call 10
    refine hc.out.mono ?_
    rintro e w' ⟨v, rfl, hs⟩
    exact HK.out v w' hs
  | n + 14, ho => exact absurd (Array.getElem?_eq_some_iff.1 ho).1 (by show ¬ n + 14 < 14; omega)
end Go.Proofs.Ytnbcdidenmakiaa
