/- The reference's PutRec: a record's bytes but for its sum. -/
import Derived.Test.YtdnbbnjmdddfdaaDoorVals
import Derived.Test.YtdnbbnjmdddfdaaDoorAppend
import Derived.WalkKit
import Derived.WalkSpells
import Derived.WalkLawsBesides
import Derived.Lib.Hide
import Derived.IntWalk
namespace Go.Proofs.YtdnbbnjmdddfdaaDoor
open Go.RowKit
set_option linter.unusedVariables false
set_option linter.unusedSimpArgs false

def opsPr3 : Array Oper := #[
  { dst := some 16, op := Op.fieldAddr 36 (Operand.tmp 3) 1, type := 0, pos := "ref.go:177", after := #[], guard := none },
  { dst := some 17, op := Op.load 23 (Operand.tmp 16), type := 23, pos := "ref.go:177", after := #[{ on := 0, ground := Ground.data }], guard := none },
  { dst := some 18, op := Op.call { callee := Callee.builtin Builtin.len, args := #[Operand.tmp 17], argTypes := #[23] }, type := 3, pos := "ref.go:177", after := #[{ on := 1, ground := Ground.data }], guard := none },
  { dst := some 19, op := Op.convert 3 67 (Operand.tmp 18), type := 67, pos := "ref.go:177", after := #[{ on := 2, ground := Ground.data }], guard := none },
  { dst := some 20, op := Op.call { callee := Callee.value (Operand.func 35), args := #[Operand.const (Value.slice none 0 0), Operand.tmp 19, Operand.const (Value.int IntKind.i64 4)], argTypes := #[23, 67, 3] }, type := 23, pos := "ref.go:177", after := #[{ on := 3, ground := Ground.data }], guard := none },
  { dst := some 21, op := Op.fieldAddr 36 (Operand.tmp 3) 0, type := 0, pos := "ref.go:177", after := #[], guard := none },
  { dst := some 22, op := Op.load 2 (Operand.tmp 21), type := 2, pos := "ref.go:177", after := #[{ on := 5, ground := Ground.data }], guard := none },
  { dst := some 23, op := Op.convert 2 67 (Operand.tmp 22), type := 67, pos := "ref.go:177", after := #[{ on := 6, ground := Ground.data }], guard := none },
  { dst := some 24, op := Op.call { callee := Callee.value (Operand.func 35), args := #[Operand.tmp 20, Operand.tmp 23, Operand.const (Value.int IntKind.i64 8)], argTypes := #[23, 67, 3] }, type := 23, pos := "ref.go:177", after := #[{ on := 4, ground := Ground.data }, { on := 7, ground := Ground.data }, { on := 4, ground := Ground.chain }], guard := none },
  { dst := some 25, op := Op.fieldAddr 36 (Operand.tmp 3) 1, type := 0, pos := "ref.go:177", after := #[], guard := none },
  { dst := some 26, op := Op.load 23 (Operand.tmp 25), type := 23, pos := "ref.go:177", after := #[{ on := 9, ground := Ground.data }], guard := none },
  { dst := some 27, op := Op.call { callee := Callee.builtin Builtin.append, args := #[Operand.tmp 24, Operand.tmp 26], argTypes := #[23, 23] }, type := 23, pos := "ref.go:177", after := #[{ on := 8, ground := Ground.data }, { on := 10, ground := Ground.data }, { on := 8, ground := Ground.chain }], guard := none },
  { dst := some 6, op := Op.assign (Operand.tmp 27), type := 23, pos := "ref.go:177", after := #[{ on := 11, ground := Ground.data }, { on := 11, ground := Ground.chain }, { on := 0, ground := Ground.phase }, { on := 1, ground := Ground.phase }, { on := 2, ground := Ground.phase }, { on := 3, ground := Ground.phase }, { on := 4, ground := Ground.phase }, { on := 5, ground := Ground.phase }, { on := 6, ground := Ground.phase }, { on := 7, ground := Ground.phase }, { on := 8, ground := Ground.phase }, { on := 9, ground := Ground.phase }, { on := 10, ground := Ground.phase }, { on := 11, ground := Ground.phase }], guard := none }]

def pr3Vals (rb ln zz c2 : Nat) (A2 : Option Addr) : List (Nat × Nat × Value) := [(0, 16, .pointer (some ⟨rb, 1, none⟩)), (1, 17, .slice A2 ln c2), (2, 18, .int .i64 (ln : Int)), (3, 19, .int .u64 (ln : Int)), (5, 21, .pointer (some ⟨rb, 0, none⟩)), (6, 22, .int .i64 (zz : Int)), (7, 23, .int .u64 (zz : Int)), (9, 25, .pointer (some ⟨rb, 1, none⟩)), (10, 26, .slice A2 ln c2)]
def pr3C : List (Nat × Nat) := [(4, 20), (8, 24), (11, 27), (12, 6)]

set_option maxHeartbeats 1600000 in
set_option maxRecDepth 100000 in
theorem pr3 {Q : Exit → Act → World → Prop} {a0 : Act} {wp : World} (rb ln zz c2 : Nat) (A2 : Option Addr) (S : Nat → (Nat → Value) → World → Prop)
    (hsz : 27 < a0.tmps.size) (in3 : a0.eval (.tmp 3) = .pointer (some ⟨rb, 0, none⟩))
    (hcell0 : ∀ p R w, S p R w → w.cell? ⟨rb, 0, none⟩ = some (.int .i64 (zz : Int))) (hcell1 : ∀ p R w, S p R w → w.cell? ⟨rb, 1, none⟩ = some (.slice A2 ln c2)) (hzz : (zz : Int) ≤ 9223372036854775807) (hln : (ln : Int) ≤ 200000)
    (hb1 : ∀ R w, S 0 R w → Calls Tryd.prog 35 #[.slice none 0 0, .int .u64 (ln : Int), .int .i64 4] w fun e w' => ∃ v, e = .returned v ∧ S 1 (setR R 0 v) w')
    (hb2 : ∀ R w, S 1 R w → Calls Tryd.prog 35 #[R 0, .int .u64 (zz : Int), .int .i64 8] w fun e w' => ∃ v, e = .returned v ∧ S 2 (setR R 1 v) w')
    (hb3 : ∀ R w, S 2 R w → ∃ v w', (Builtin.append_ #[23, 23] 23 #[R 1, .slice A2 ln c2]).run Tryd.prog w = .ok v w' ∧ S 3 (setR R 2 v) w')
    (hb4 : ∀ R w, S 3 R w → S 4 (setR R 3 (R 2)) w)
    (hS : S 0 (resOf pr3C fun t => a0.eval (.tmp t)) wp.drew)
    (fin : ∀ a w, Fr [16, 17, 18, 19, 20, 21, 22, 23, 24, 25, 26, 27, 6] a0 a → S 4 (resOf pr3C fun t => a.eval (.tmp t)) w → Q .normal a w) :
    (Code.region 3 opsPr3 true).wp Tryd.prog Q a0 wp := by
  have hw1 : IntKind.u64.wrap (ln : Int) = (ln : Int) := by rw [IntKind.wrap_u64]; omega
  have hw2 : IntKind.u64.wrap (zz : Int) = (zz : Int) := by rw [IntKind.wrap_u64]; omega
  refine region_inv (by kernel_rfl) [16, 17, 18, 19, 20, 21, 22, 23, 24, 25, 26, 27, 6] (by kernel_rfl) (by kernel_rfl) (fun t ht => by simp at ht; omega) (GV (pr3Vals rb ln zz c2 A2) pr3C S) (.start hS) ?_
    (fun L a w hf hall hG => fin a w hf  (hG.fin (fun c hc => by simp [pr3C] at hc; rcases hc with rfl | rfl | rfl | rfl <;> exact hall _ (by decide))))
  clear hS fin
  intro ix oo ho L a w hfr hG hLi hdep hcl K hK
  have e3 : a.tmps[3]?.getD undef = .pointer (some ⟨rb, 0, none⟩) := by rw [← ev]; exact (hfr.same 3 (by decide)).trans in3
  clear in3
  match ix, ho with
  | 0, ho =>
    simp only [opsPr3, List.getElem?_toArray, List.getElem?_cons_zero, Option.some.injEq] at ho
    subst ho
    rw [if_pos (show Region.wanted _ _ = true from rfl)]
    have hfin := hK (.pointer (some ⟨rb, 1, none⟩)) w (hG.quiet 0 0 16 _ rfl (by kernel_rfl) (by kernel_rfl))
    have HK := Lib.hid hfin
    clear hG hcl hdep hfr hK hfin hLi 
    go_simp
    exact HK.out
  | 1, ho =>
    simp only [opsPr3, List.getElem?_toArray, List.getElem?_cons_succ, List.getElem?_cons_zero, Option.some.injEq] at ho
    subst ho
    have x16 : a.tmps[16]?.getD undef = .pointer (some ⟨rb, 1, none⟩) := by rw [← ev]; exact hG.val 0 0 16 _ rfl (hdep ⟨0, .data⟩ (by simp) rfl)
    rw [if_pos (show Region.wanted _ _ = true from rfl)]
    obtain ⟨ph, hSp, hdone⟩ := hG.any
    have hfin := hK (.slice A2 ln c2) w (hG.quiet 1 1 17 _ rfl (by kernel_rfl) (by kernel_rfl))
    have HK := Lib.hid hfin
    generalize (resOf pr3C fun t => a.eval (.tmp t)) = R at *
    have hc := hcell1 _ _ _ hSp
    clear hcell0 hcell1 hb1 hb2 hb3 hb4
    clear hSp hdone
    clear hG hcl hdep hfr hK hfin hLi 
    go_simp
    exact HK.out
  | 2, ho =>
    simp only [opsPr3, List.getElem?_toArray, List.getElem?_cons_succ, List.getElem?_cons_zero, Option.some.injEq] at ho
    subst ho
    have x17 : a.tmps[17]?.getD undef = .slice A2 ln c2 := by rw [← ev]; exact hG.val 1 1 17 _ rfl (hdep ⟨1, .data⟩ (by simp) rfl)
    rw [if_pos (show Region.wanted _ _ = true from rfl)]
    have hfin := hK (.int .i64 (ln : Int)) w (hG.quiet 2 2 18 _ rfl (by kernel_rfl) (by kernel_rfl))
    have HK := Lib.hid hfin
    clear hG hcl hdep hfr hK hfin hLi 
    go_simp
    exact HK.out
  | 3, ho =>
    simp only [opsPr3, List.getElem?_toArray, List.getElem?_cons_succ, List.getElem?_cons_zero, Option.some.injEq] at ho
    subst ho
    have x18 : a.tmps[18]?.getD undef = .int .i64 (ln : Int) := by rw [← ev]; exact hG.val 2 2 18 _ rfl (hdep ⟨2, .data⟩ (by simp) rfl)
    rw [if_pos (show Region.wanted _ _ = true from rfl)]
    have hfin := hK (.int .u64 (ln : Int)) w (hG.quiet 3 3 19 _ rfl (by kernel_rfl) (by kernel_rfl))
    have HK := Lib.hid hfin
    clear hG hcl hdep hfr hK hfin hLi 
    go_simp
    exact HK.out
  | 4, ho =>
    simp only [opsPr3, List.getElem?_toArray, List.getElem?_cons_succ, List.getElem?_cons_zero, Option.some.injEq] at ho
    subst ho
    have x19 : a.tmps[19]?.getD undef = .int .u64 (ln : Int) := by rw [← ev]; exact hG.val 3 3 19 _ rfl (hdep ⟨3, .data⟩ (by simp) rfl)
    rw [if_pos (show Region.wanted _ _ = true from rfl)]
    have hSj := hG.at 0 (4, 20) rfl hLi (fun c h0 hc => absurd h0 (by decide))
    have hfin := fun v w' hs => hK v w' (hG.call 0 (4, 20) rfl hLi (fun c h0 hc => absurd h0 (by decide)) (by kernel_rfl) v w' hs)
    have HK := Lib.hid hfin
    generalize (resOf pr3C fun t => a.eval (.tmp t)) = R at *
    clear hG hcl hdep hfr hK hfin hLi
    have hc := Lib.hid (hb1 _ _ hSj)
    clear hSj hcell0 hcell1 hb1 hb2 hb3 hb4
    go_simp
    go_at_call 35
    refine hc.out.mono ?_
    rintro e w' ⟨v, rfl, hs⟩
    exact HK.out v w' hs
  | 5, ho =>
    simp only [opsPr3, List.getElem?_toArray, List.getElem?_cons_succ, List.getElem?_cons_zero, Option.some.injEq] at ho
    subst ho
    rw [if_pos (show Region.wanted _ _ = true from rfl)]
    have hfin := hK (.pointer (some ⟨rb, 0, none⟩)) w (hG.quiet 4 5 21 _ rfl (by kernel_rfl) (by kernel_rfl))
    have HK := Lib.hid hfin
    clear hG hcl hdep hfr hK hfin hLi 
    go_simp
    exact HK.out
  | 6, ho =>
    simp only [opsPr3, List.getElem?_toArray, List.getElem?_cons_succ, List.getElem?_cons_zero, Option.some.injEq] at ho
    subst ho
    have x21 : a.tmps[21]?.getD undef = .pointer (some ⟨rb, 0, none⟩) := by rw [← ev]; exact hG.val 4 5 21 _ rfl (hdep ⟨5, .data⟩ (by simp) rfl)
    rw [if_pos (show Region.wanted _ _ = true from rfl)]
    obtain ⟨ph, hSp, hdone⟩ := hG.any
    have hfin := hK (.int .i64 (zz : Int)) w (hG.quiet 5 6 22 _ rfl (by kernel_rfl) (by kernel_rfl))
    have HK := Lib.hid hfin
    generalize (resOf pr3C fun t => a.eval (.tmp t)) = R at *
    have hc := hcell0 _ _ _ hSp
    clear hcell0 hcell1 hb1 hb2 hb3 hb4
    clear hSp hdone
    clear hG hcl hdep hfr hK hfin hLi 
    go_simp
    exact HK.out
  | 7, ho =>
    simp only [opsPr3, List.getElem?_toArray, List.getElem?_cons_succ, List.getElem?_cons_zero, Option.some.injEq] at ho
    subst ho
    have x22 : a.tmps[22]?.getD undef = .int .i64 (zz : Int) := by rw [← ev]; exact hG.val 5 6 22 _ rfl (hdep ⟨6, .data⟩ (by simp) rfl)
    rw [if_pos (show Region.wanted _ _ = true from rfl)]
    have hfin := hK (.int .u64 (zz : Int)) w (hG.quiet 6 7 23 _ rfl (by kernel_rfl) (by kernel_rfl))
    have HK := Lib.hid hfin
    clear hG hcl hdep hfr hK hfin hLi 
    go_simp
    exact HK.out
  | 8, ho =>
    simp only [opsPr3, List.getElem?_toArray, List.getElem?_cons_succ, List.getElem?_cons_zero, Option.some.injEq] at ho
    subst ho
    have x23 : a.tmps[23]?.getD undef = .int .u64 (zz : Int) := by rw [← ev]; exact hG.val 6 7 23 _ rfl (hdep ⟨7, .data⟩ (by simp) rfl)
    rw [if_pos (show Region.wanted _ _ = true from rfl)]
    have hSj := hG.at 1 (8, 24) rfl hLi (fun c h0 hc => by simp [pr3C] at hc; subst hc; exact hdep ⟨4, .data⟩ (by simp) rfl)
    have r20 : a.tmps[20]?.getD undef = resOf pr3C (fun t => a.eval (.tmp t)) 0 := by rw [← ev]; exact (resOf_at (C := pr3C) (j := 0) rfl a).symm
    have hfin := fun v w' hs => hK v w' (hG.call 1 (8, 24) rfl hLi (fun c h0 hc => by simp [pr3C] at hc; subst hc; exact hdep ⟨4, .data⟩ (by simp) rfl) (by kernel_rfl) v w' hs)
    have HK := Lib.hid hfin
    generalize (resOf pr3C fun t => a.eval (.tmp t)) = R at *
    clear hG hcl hdep hfr hK hfin hLi
    have hc := Lib.hid (hb2 _ _ hSj)
    clear hSj hcell0 hcell1 hb1 hb2 hb3 hb4
    go_simp
    go_at_call 35
    refine hc.out.mono ?_
    rintro e w' ⟨v, rfl, hs⟩
    exact HK.out v w' hs
  | 9, ho =>
    simp only [opsPr3, List.getElem?_toArray, List.getElem?_cons_succ, List.getElem?_cons_zero, Option.some.injEq] at ho
    subst ho
    rw [if_pos (show Region.wanted _ _ = true from rfl)]
    have hfin := hK (.pointer (some ⟨rb, 1, none⟩)) w (hG.quiet 7 9 25 _ rfl (by kernel_rfl) (by kernel_rfl))
    have HK := Lib.hid hfin
    clear hG hcl hdep hfr hK hfin hLi 
    go_simp
    exact HK.out
  | 10, ho =>
    simp only [opsPr3, List.getElem?_toArray, List.getElem?_cons_succ, List.getElem?_cons_zero, Option.some.injEq] at ho
    subst ho
    have x25 : a.tmps[25]?.getD undef = .pointer (some ⟨rb, 1, none⟩) := by rw [← ev]; exact hG.val 7 9 25 _ rfl (hdep ⟨9, .data⟩ (by simp) rfl)
    rw [if_pos (show Region.wanted _ _ = true from rfl)]
    obtain ⟨ph, hSp, hdone⟩ := hG.any
    have hfin := hK (.slice A2 ln c2) w (hG.quiet 8 10 26 _ rfl (by kernel_rfl) (by kernel_rfl))
    have HK := Lib.hid hfin
    generalize (resOf pr3C fun t => a.eval (.tmp t)) = R at *
    have hc := hcell1 _ _ _ hSp
    clear hcell0 hcell1 hb1 hb2 hb3 hb4
    clear hSp hdone
    clear hG hcl hdep hfr hK hfin hLi 
    go_simp
    exact HK.out
  | 11, ho =>
    simp only [opsPr3, List.getElem?_toArray, List.getElem?_cons_succ, List.getElem?_cons_zero, Option.some.injEq] at ho
    subst ho
    have x26 : a.tmps[26]?.getD undef = .slice A2 ln c2 := by rw [← ev]; exact hG.val 8 10 26 _ rfl (hdep ⟨10, .data⟩ (by simp) rfl)
    rw [if_pos (show Region.wanted _ _ = true from rfl)]
    have hSj := hG.at 2 (11, 27) rfl hLi (fun c h0 hc => by simp [pr3C] at hc; subst hc; exact hdep ⟨8, .data⟩ (by simp) rfl)
    have r24 : a.tmps[24]?.getD undef = resOf pr3C (fun t => a.eval (.tmp t)) 1 := by rw [← ev]; exact (resOf_at (C := pr3C) (j := 1) rfl a).symm
    have hfin := fun v w' hs => hK v w' (hG.call 2 (11, 27) rfl hLi (fun c h0 hc => by simp [pr3C] at hc; subst hc; exact hdep ⟨8, .data⟩ (by simp) rfl) (by kernel_rfl) v w' hs)
    have HK := Lib.hid hfin
    generalize (resOf pr3C fun t => a.eval (.tmp t)) = R at *
    clear hG hcl hdep hfr hK hfin hLi
    obtain ⟨v, w', hrun, hs⟩ := hb3 _ _ hSj
    refine oper_append_run (.tmp 24) (.tmp 26) 23 rfl w _ _ (by rw [ev]; exact r24) (by rw [ev]; exact x26) v w' hrun (HK.out v w' hs)
  | 12, ho =>
    simp only [opsPr3, List.getElem?_toArray, List.getElem?_cons_succ, List.getElem?_cons_zero, Option.some.injEq] at ho
    subst ho
    rw [if_pos (show Region.wanted _ _ = true from rfl)]
    have hSj := hG.at 3 (12, 6) rfl hLi (fun c h0 hc => by simp [pr3C] at hc; subst hc; exact hdep ⟨11, .data⟩ (by simp) rfl)
    have r27 : a.tmps[27]?.getD undef = resOf pr3C (fun t => a.eval (.tmp t)) 2 := by rw [← ev]; exact (resOf_at (C := pr3C) (j := 2) rfl a).symm
    have hfin := fun v w' hs => hK v w' (hG.call 3 (12, 6) rfl hLi (fun c h0 hc => by simp [pr3C] at hc; subst hc; exact hdep ⟨11, .data⟩ (by simp) rfl) (by kernel_rfl) v w' hs)
    have HK := Lib.hid hfin
    generalize (resOf pr3C fun t => a.eval (.tmp t)) = R at *
    clear hG hcl hdep hfr hK hfin hLi
    have hk := HK.out _ _ (hb4 _ _ hSj)
    have HK2 := Lib.hid hk
    clear hk HK hSj hcell0 hcell1 hb1 hb2 hb3 hb4
    go_simp
    exact HK2.out
  | n + 13, ho => exact absurd (Array.getElem?_eq_some_iff.1 ho).1 (by show ¬ n + 13 < 13; omega)
end Go.Proofs.YtdnbbnjmdddfdaaDoor
