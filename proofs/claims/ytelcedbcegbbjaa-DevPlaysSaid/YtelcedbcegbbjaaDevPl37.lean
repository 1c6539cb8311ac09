/- DevPlays: what both say of themselves behind an act. -/
import Derived.Test.YtelcedbcegbbjaaVals
import Derived.Test.YtelcedbcegbbjaaDevPair
import Derived.Test.YtelcedbcegbbjaaDevActs
import Derived.WalkKit
import Derived.WalkSpells
import Derived.WalkLawsBesides
import Derived.Lib.Hide
import Derived.Laws.Entries
namespace Go.Proofs.Ytelcedbcegbbjaa
open Go.RowKit Dk
set_option linter.unusedVariables false
set_option linter.unusedSimpArgs false

def opsPl37 : Array Oper := #[
  { dst := some 185, op := Op.move (Operand.tmp 10), type := 4, pos := "law.go:115", after := #[], guard := none },
  { dst := some 186, op := Op.unOp UnOp.not 4 (Operand.tmp 185), type := 4, pos := "law.go:115", after := #[{ on := 0, ground := Ground.data }], guard := none },
  { dst := some 187, op := Op.move (Operand.tmp 186), type := 4, pos := "law.go:115", after := #[{ on := 1, ground := Ground.data }], guard := none },
  { dst := some 188, op := Op.move (Operand.tmp 5), type := 23, pos := "law.go:115", after := #[{ on := 2, ground := Ground.guard }], guard := some (2, false) },
  { dst := some 189, op := Op.call { callee := Callee.value (Operand.func 15), args := #[Operand.tmp 188], argTypes := #[23] }, type := 4, pos := "law.go:115", after := #[{ on := 3, ground := Ground.data }, { on := 2, ground := Ground.chain }, { on := 2, ground := Ground.guard }], guard := some (2, false) },
  { dst := some 190, op := Op.move (Operand.tmp 7), type := 38, pos := "law.go:115", after := #[{ on := 2, ground := Ground.guard }], guard := some (2, false) },
  { dst := some 191, op := Op.nilCheck (Operand.tmp 190), type := 0, pos := "law.go:115", after := #[{ on := 5, ground := Ground.data }, { on := 2, ground := Ground.guard }], guard := some (2, false) },
  { dst := some 192, op := Op.fieldAddr 45 (Operand.tmp 191) 1, type := 0, pos := "law.go:115", after := #[{ on := 6, ground := Ground.data }, { on := 2, ground := Ground.guard }], guard := some (2, false) },
  { dst := some 193, op := Op.load 4 (Operand.tmp 192), type := 4, pos := "law.go:115", after := #[{ on := 7, ground := Ground.data }, { on := 2, ground := Ground.guard }], guard := some (2, false) },
  { dst := some 194, op := Op.binOp BinOp.neq 4 (Operand.tmp 189) (Operand.tmp 193) 4, type := 4, pos := "law.go:115", after := #[{ on := 4, ground := Ground.data }, { on := 8, ground := Ground.data }, { on := 2, ground := Ground.guard }], guard := some (2, false) },
  { dst := some 195, op := Op.pick (Operand.tmp 187) (Operand.const (Value.bool true)) (Operand.tmp 194), type := 4, pos := "law.go:115", after := #[{ on := 2, ground := Ground.data }, { on := 9, ground := Ground.data }], guard := none },
  { dst := some 196, op := Op.move (Operand.tmp 195), type := 4, pos := "law.go:115", after := #[{ on := 10, ground := Ground.data }, { on := 4, ground := Ground.chain }], guard := none },
  { dst := some 197, op := Op.move (Operand.tmp 5), type := 23, pos := "law.go:115", after := #[{ on := 11, ground := Ground.guard }], guard := some (11, false) },
  { dst := some 198, op := Op.call { callee := Callee.value (Operand.func 13), args := #[Operand.tmp 197], argTypes := #[23] }, type := 3, pos := "law.go:115", after := #[{ on := 12, ground := Ground.data }, { on := 11, ground := Ground.chain }, { on := 11, ground := Ground.guard }], guard := some (11, false) },
  { dst := some 199, op := Op.move (Operand.tmp 7), type := 38, pos := "law.go:115", after := #[{ on := 11, ground := Ground.guard }], guard := some (11, false) },
  { dst := some 200, op := Op.call { callee := Callee.value (Operand.func 27), args := #[Operand.tmp 199], argTypes := #[38] }, type := 3, pos := "law.go:115", after := #[{ on := 14, ground := Ground.data }, { on := 13, ground := Ground.chain }, { on := 11, ground := Ground.guard }], guard := some (11, false) },
  { dst := some 201, op := Op.binOp BinOp.neq 3 (Operand.tmp 198) (Operand.tmp 200) 3, type := 4, pos := "law.go:115", after := #[{ on := 13, ground := Ground.data }, { on := 15, ground := Ground.data }, { on := 11, ground := Ground.guard }], guard := some (11, false) },
  { dst := some 202, op := Op.pick (Operand.tmp 196) (Operand.const (Value.bool true)) (Operand.tmp 201), type := 4, pos := "law.go:115", after := #[{ on := 11, ground := Ground.data }, { on := 16, ground := Ground.data }], guard := none },
  { dst := some 203, op := Op.move (Operand.tmp 202), type := 4, pos := "law.go:115", after := #[{ on := 17, ground := Ground.data }, { on := 15, ground := Ground.chain }], guard := none },
  { dst := some 204, op := Op.move (Operand.tmp 5), type := 23, pos := "law.go:115", after := #[{ on := 18, ground := Ground.guard }], guard := some (18, false) },
  { dst := some 205, op := Op.call { callee := Callee.value (Operand.func 19), args := #[Operand.tmp 204], argTypes := #[23] }, type := 3, pos := "law.go:115", after := #[{ on := 19, ground := Ground.data }, { on := 18, ground := Ground.chain }, { on := 18, ground := Ground.guard }], guard := some (18, false) },
  { dst := some 206, op := Op.move (Operand.tmp 0), type := 3, pos := "law.go:115", after := #[{ on := 18, ground := Ground.guard }], guard := some (18, false) },
  { dst := some 207, op := Op.binOp BinOp.neq 3 (Operand.tmp 205) (Operand.tmp 206) 3, type := 4, pos := "law.go:115", after := #[{ on := 20, ground := Ground.data }, { on := 21, ground := Ground.data }, { on := 18, ground := Ground.guard }], guard := some (18, false) },
  { dst := some 208, op := Op.pick (Operand.tmp 203) (Operand.const (Value.bool true)) (Operand.tmp 207), type := 4, pos := "law.go:115", after := #[{ on := 18, ground := Ground.data }, { on := 22, ground := Ground.data }], guard := none }]

def pl37Vals (d r n u : Nat) (off : Bool) : List (Nat × Nat × Value) := [(0, 185, .bool true), (1, 186, .bool false), (2, 187, .bool false), (3, 188, .pointer (some ⟨d, 0, none⟩)), (5, 190, .pointer (some ⟨r, 0, none⟩)), (6, 191, .pointer (some ⟨r, 0, none⟩)), (7, 192, .pointer (some ⟨r, 1, none⟩)), (8, 193, .bool off), (9, 194, .bool false), (10, 195, .bool false), (11, 196, .bool false), (12, 197, .pointer (some ⟨d, 0, none⟩)), (14, 199, .pointer (some ⟨r, 0, none⟩)), (16, 201, .bool false), (17, 202, .bool false), (18, 203, .bool false), (19, 204, .pointer (some ⟨d, 0, none⟩)), (21, 206, .int .i64 (n : Int)), (22, 207, .bool false), (23, 208, .bool false)]
def pl37C : List (Nat × Nat) := [(4, 189), (13, 198), (15, 200), (20, 205)]

set_option maxHeartbeats 4000000 in
set_option maxRecDepth 100000 in
theorem pl37 {Q : Exit → Act → World → Prop} {a0 : Act} {wp : World} (d r n u : Nat) (off : Bool) (S : Nat → (Nat → Value) → World → Prop)
    (hsz : 208 < a0.tmps.size) (in0 : a0.eval (.tmp 0) = .int .i64 (n : Int)) (in5 : a0.eval (.tmp 5) = .pointer (some ⟨d, 0, none⟩)) (in7 : a0.eval (.tmp 7) = .pointer (some ⟨r, 0, none⟩)) (in10 : a0.eval (.tmp 10) = .bool true)
    (hx : ∀ p R w, S p R w → w.cell? ⟨r, 1, none⟩ = some (.bool off))
    (hc1 : ∀ R w, S 0 R w → Calls Try.prog 15 #[.pointer (some ⟨d, 0, none⟩)] w fun e w' => ∃ v, e = .returned v ∧ S 1 (setR R 0 v) w')
    (hc2 : ∀ R w, S 1 R w → Calls Try.prog 13 #[.pointer (some ⟨d, 0, none⟩)] w fun e w' => ∃ v, e = .returned v ∧ S 2 (setR R 1 v) w')
    (hc3 : ∀ R w, S 2 R w → Calls Try.prog 27 #[.pointer (some ⟨r, 0, none⟩)] w fun e w' => ∃ v, e = .returned v ∧ S 3 (setR R 2 v) w')
    (hc4 : ∀ R w, S 3 R w → Calls Try.prog 19 #[.pointer (some ⟨d, 0, none⟩)] w fun e w' => ∃ v, e = .returned v ∧ S 4 (setR R 3 v) w')
    (hr1 : ∀ p R w, S p R w → 0 < p → R 0 = .bool off) (hr2 : ∀ p R w, S p R w → 2 < p → R 1 = .int .i64 (u : Int) ∧ R 2 = .int .i64 (u : Int)) (hr3 : ∀ p R w, S p R w → 3 < p → R 3 = .int .i64 (n : Int))
    (hS : S 0 (resOf pl37C fun t => a0.eval (.tmp t)) wp.drew)
    (fin : ∀ a w, Fr [185, 186, 187, 188, 189, 190, 191, 192, 193, 194, 195, 196, 197, 198, 199, 200, 201, 202, 203, 204, 205, 206, 207, 208] a0 a → a.eval (.tmp 208) = .bool false → S 4 (resOf pl37C fun t => a.eval (.tmp t)) w → Q .normal a w) :
    (Code.region 37 opsPl37 true).wp Try.prog Q a0 wp := by
  refine region_inv (by kernel_rfl) [185, 186, 187, 188, 189, 190, 191, 192, 193, 194, 195, 196, 197, 198, 199, 200, 201, 202, 203, 204, 205, 206, 207, 208] (by kernel_rfl) (by kernel_rfl) (fun t ht => by simp at ht; omega) (GV (pl37Vals d r n u off) pl37C S) (.start hS) ?_
    (fun L a w hf hall hG => fin a w hf (hG.val 19 23 208 _ rfl (hall 23 (by decide))) (hG.fin (fun c hc => by simp [pl37C] at hc; rcases hc with rfl | rfl | rfl | rfl <;> exact hall _ (by decide))))
  clear hS fin
  intro ix oo ho L a w hfr hG hLi hdep hcl K hK
  have e0 : a.tmps[0]?.getD undef = .int .i64 (n : Int) := by rw [← ev]; exact (hfr.same 0 (by decide)).trans in0
  have e5 : a.tmps[5]?.getD undef = .pointer (some ⟨d, 0, none⟩) := by rw [← ev]; exact (hfr.same 5 (by decide)).trans in5
  have e7 : a.tmps[7]?.getD undef = .pointer (some ⟨r, 0, none⟩) := by rw [← ev]; exact (hfr.same 7 (by decide)).trans in7
  have e10 : a.tmps[10]?.getD undef = .bool true := by rw [← ev]; exact (hfr.same 10 (by decide)).trans in10
  clear in0 in5 in7 in10
  match ix, ho with
  | 0, ho =>
    simp only [opsPl37, List.getElem?_toArray, List.getElem?_cons_zero, Option.some.injEq] at ho
    subst ho
    rw [if_pos (show Region.wanted _ _ = true from rfl)]
    have hfin := hK (.bool true) w (hG.quiet 0 0 185 _ rfl (by kernel_rfl) (by kernel_rfl))
    have HK := Lib.hid hfin
    clear hG hcl hdep hfr hK hfin hLi 
    go_simp
    exact HK.out
  | 1, ho =>
    simp only [opsPl37, List.getElem?_toArray, List.getElem?_cons_succ, List.getElem?_cons_zero, Option.some.injEq] at ho
    subst ho
    have x185 : a.tmps[185]?.getD undef = .bool true := by rw [← ev]; exact hG.val 0 0 185 _ rfl (hdep ⟨0, .data⟩ (by simp) rfl)
    rw [if_pos (show Region.wanted _ _ = true from rfl)]
    have hfin := hK (.bool false) w (hG.quiet 1 1 186 _ rfl (by kernel_rfl) (by kernel_rfl))
    have HK := Lib.hid hfin
    clear hG hcl hdep hfr hK hfin hLi 
    go_simp
    exact HK.out
  | 2, ho =>
    simp only [opsPl37, List.getElem?_toArray, List.getElem?_cons_succ, List.getElem?_cons_zero, Option.some.injEq] at ho
    subst ho
    have x186 : a.tmps[186]?.getD undef = .bool false := by rw [← ev]; exact hG.val 1 1 186 _ rfl (hdep ⟨1, .data⟩ (by simp) rfl)
    rw [if_pos (show Region.wanted _ _ = true from rfl)]
    have hfin := hK (.bool false) w (hG.quiet 2 2 187 _ rfl (by kernel_rfl) (by kernel_rfl))
    have HK := Lib.hid hfin
    clear hG hcl hdep hfr hK hfin hLi 
    go_simp
    exact HK.out
  | 3, ho =>
    simp only [opsPl37, List.getElem?_toArray, List.getElem?_cons_succ, List.getElem?_cons_zero, Option.some.injEq] at ho
    subst ho
    have xg : a.tmps[187]?.getD undef = .bool false := by rw [← ev]; exact hG.val 2 2 187 _ rfl (hdep ⟨2, .guard⟩ (by simp) rfl)
    have hw := wanted_of (ops := opsPl37) (a := a) (o := { dst := some 188, op := Op.move (Operand.tmp 5), type := 23, pos := "law.go:115", after := #[{ on := 2, ground := Ground.guard }], guard := some (2, false) }) (g := 2) (s := 187) (b := false) (b' := false) rfl rfl xg
    replace hw := hw.trans (show (false == false) = true from rfl)
    rw [if_pos hw]
    clear hw xg
    have hfin := hK (.pointer (some ⟨d, 0, none⟩)) w (hG.quiet 3 3 188 _ rfl (by kernel_rfl) (by kernel_rfl))
    have HK := Lib.hid hfin
    clear hG hcl hdep hfr hK hfin hLi 
    go_simp
    exact HK.out
  | 4, ho =>
    simp only [opsPl37, List.getElem?_toArray, List.getElem?_cons_succ, List.getElem?_cons_zero, Option.some.injEq] at ho
    subst ho
    have x188 : a.tmps[188]?.getD undef = .pointer (some ⟨d, 0, none⟩) := by rw [← ev]; exact hG.val 3 3 188 _ rfl (hdep ⟨3, .data⟩ (by simp) rfl)
    have xg : a.tmps[187]?.getD undef = .bool false := by rw [← ev]; exact hG.val 2 2 187 _ rfl (hdep ⟨2, .chain⟩ (by simp) rfl)
    have hw := wanted_of (ops := opsPl37) (a := a) (o := { dst := some 189, op := Op.call { callee := Callee.value (Operand.func 15), args := #[Operand.tmp 188], argTypes := #[23] }, type := 4, pos := "law.go:115", after := #[{ on := 3, ground := Ground.data }, { on := 2, ground := Ground.chain }, { on := 2, ground := Ground.guard }], guard := some (2, false) }) (g := 2) (s := 187) (b := false) (b' := false) rfl rfl xg
    replace hw := hw.trans (show (false == false) = true from rfl)
    rw [if_pos hw]
    clear hw xg
    have hSj := hG.at 0 (4, 189) rfl hLi (fun c h0 hc => absurd h0 (by decide))
    have hfin := fun v w' hs => hK v w' (hG.call 0 (4, 189) rfl hLi (fun c h0 hc => absurd h0 (by decide)) (by kernel_rfl) v w' hs)
    have HK := Lib.hid hfin
    generalize (resOf pl37C fun t => a.eval (.tmp t)) = R at *
    clear hG hcl hdep hfr hK hfin hLi
    have hc := Lib.hid (hc1 _ _ hSj)
    clear hSj hc1 hc2 hc3 hc4 hx hr1 hr2 hr3
    go_simp
    go_at_call 15
    refine hc.out.mono ?_
    rintro e w' ⟨v, rfl, hs⟩
    exact HK.out v w' hs
  | 5, ho =>
    simp only [opsPl37, List.getElem?_toArray, List.getElem?_cons_succ, List.getElem?_cons_zero, Option.some.injEq] at ho
    subst ho
    have xg : a.tmps[187]?.getD undef = .bool false := by rw [← ev]; exact hG.val 2 2 187 _ rfl (hdep ⟨2, .guard⟩ (by simp) rfl)
    have hw := wanted_of (ops := opsPl37) (a := a) (o := { dst := some 190, op := Op.move (Operand.tmp 7), type := 38, pos := "law.go:115", after := #[{ on := 2, ground := Ground.guard }], guard := some (2, false) }) (g := 2) (s := 187) (b := false) (b' := false) rfl rfl xg
    replace hw := hw.trans (show (false == false) = true from rfl)
    rw [if_pos hw]
    clear hw xg
    have hfin := hK (.pointer (some ⟨r, 0, none⟩)) w (hG.quiet 4 5 190 _ rfl (by kernel_rfl) (by kernel_rfl))
    have HK := Lib.hid hfin
    clear hG hcl hdep hfr hK hfin hLi 
    go_simp
    exact HK.out
  | 6, ho =>
    simp only [opsPl37, List.getElem?_toArray, List.getElem?_cons_succ, List.getElem?_cons_zero, Option.some.injEq] at ho
    subst ho
    have x190 : a.tmps[190]?.getD undef = .pointer (some ⟨r, 0, none⟩) := by rw [← ev]; exact hG.val 4 5 190 _ rfl (hdep ⟨5, .data⟩ (by simp) rfl)
    have xg : a.tmps[187]?.getD undef = .bool false := by rw [← ev]; exact hG.val 2 2 187 _ rfl (hdep ⟨2, .guard⟩ (by simp) rfl)
    have hw := wanted_of (ops := opsPl37) (a := a) (o := { dst := some 191, op := Op.nilCheck (Operand.tmp 190), type := 0, pos := "law.go:115", after := #[{ on := 5, ground := Ground.data }, { on := 2, ground := Ground.guard }], guard := some (2, false) }) (g := 2) (s := 187) (b := false) (b' := false) rfl rfl xg
    replace hw := hw.trans (show (false == false) = true from rfl)
    rw [if_pos hw]
    clear hw xg
    have hfin := hK (.pointer (some ⟨r, 0, none⟩)) w (hG.quiet 5 6 191 _ rfl (by kernel_rfl) (by kernel_rfl))
    have HK := Lib.hid hfin
    clear hG hcl hdep hfr hK hfin hLi 
    go_simp
    exact HK.out
  | 7, ho =>
    simp only [opsPl37, List.getElem?_toArray, List.getElem?_cons_succ, List.getElem?_cons_zero, Option.some.injEq] at ho
    subst ho
    have x191 : a.tmps[191]?.getD undef = .pointer (some ⟨r, 0, none⟩) := by rw [← ev]; exact hG.val 5 6 191 _ rfl (hdep ⟨6, .data⟩ (by simp) rfl)
    have xg : a.tmps[187]?.getD undef = .bool false := by rw [← ev]; exact hG.val 2 2 187 _ rfl (hdep ⟨2, .guard⟩ (by simp) rfl)
    have hw := wanted_of (ops := opsPl37) (a := a) (o := { dst := some 192, op := Op.fieldAddr 45 (Operand.tmp 191) 1, type := 0, pos := "law.go:115", after := #[{ on := 6, ground := Ground.data }, { on := 2, ground := Ground.guard }], guard := some (2, false) }) (g := 2) (s := 187) (b := false) (b' := false) rfl rfl xg
    replace hw := hw.trans (show (false == false) = true from rfl)
    rw [if_pos hw]
    clear hw xg
    have hfin := hK (.pointer (some ⟨r, 1, none⟩)) w (hG.quiet 6 7 192 _ rfl (by kernel_rfl) (by kernel_rfl))
    have HK := Lib.hid hfin
    clear hG hcl hdep hfr hK hfin hLi 
    go_simp
    exact HK.out
  | 8, ho =>
    simp only [opsPl37, List.getElem?_toArray, List.getElem?_cons_succ, List.getElem?_cons_zero, Option.some.injEq] at ho
    subst ho
    have x192 : a.tmps[192]?.getD undef = .pointer (some ⟨r, 1, none⟩) := by rw [← ev]; exact hG.val 6 7 192 _ rfl (hdep ⟨7, .data⟩ (by simp) rfl)
    have xg : a.tmps[187]?.getD undef = .bool false := by rw [← ev]; exact hG.val 2 2 187 _ rfl (hdep ⟨2, .guard⟩ (by simp) rfl)
    have hw := wanted_of (ops := opsPl37) (a := a) (o := { dst := some 193, op := Op.load 4 (Operand.tmp 192), type := 4, pos := "law.go:115", after := #[{ on := 7, ground := Ground.data }, { on := 2, ground := Ground.guard }], guard := some (2, false) }) (g := 2) (s := 187) (b := false) (b' := false) rfl rfl xg
    replace hw := hw.trans (show (false == false) = true from rfl)
    rw [if_pos hw]
    clear hw xg
    obtain ⟨ph, hSp, hdone⟩ := hG.any
    have hfin := hK (.bool off) w (hG.quiet 7 8 193 _ rfl (by kernel_rfl) (by kernel_rfl))
    have HK := Lib.hid hfin
    generalize (resOf pl37C fun t => a.eval (.tmp t)) = R at *
    have q1 := hx _ _ _ hSp
    clear hc1 hc2 hc3 hc4 hx hr1 hr2 hr3
    clear hSp hdone
    clear hG hcl hdep hfr hK hfin hLi 
    go_simp
    exact HK.out
  | 9, ho =>
    simp only [opsPl37, List.getElem?_toArray, List.getElem?_cons_succ, List.getElem?_cons_zero, Option.some.injEq] at ho
    subst ho
    have x193 : a.tmps[193]?.getD undef = .bool off := by rw [← ev]; exact hG.val 7 8 193 _ rfl (hdep ⟨8, .data⟩ (by simp) rfl)
    have xg : a.tmps[187]?.getD undef = .bool false := by rw [← ev]; exact hG.val 2 2 187 _ rfl (hdep ⟨2, .guard⟩ (by simp) rfl)
    have hw := wanted_of (ops := opsPl37) (a := a) (o := { dst := some 194, op := Op.binOp BinOp.neq 4 (Operand.tmp 189) (Operand.tmp 193) 4, type := 4, pos := "law.go:115", after := #[{ on := 4, ground := Ground.data }, { on := 8, ground := Ground.data }, { on := 2, ground := Ground.guard }], guard := some (2, false) }) (g := 2) (s := 187) (b := false) (b' := false) rfl rfl xg
    replace hw := hw.trans (show (false == false) = true from rfl)
    rw [if_pos hw]
    clear hw xg
    obtain ⟨ph, hSp, hdone⟩ := hG.any
    have hd189 : 0 < ph := hdone 0 (4, 189) rfl (hdep ⟨4, .data⟩ (by simp) rfl)
    have r189 : a.tmps[189]?.getD undef = resOf pl37C (fun t => a.eval (.tmp t)) 0 := by rw [← ev]; exact (resOf_at (C := pl37C) (j := 0) rfl a).symm
    have hfin := hK (.bool false) w (hG.quiet 8 9 194 _ rfl (by kernel_rfl) (by kernel_rfl))
    have HK := Lib.hid hfin
    generalize (resOf pl37C fun t => a.eval (.tmp t)) = R at *
    have q1 := hr1 _ _ _ hSp hd189
    rw [q1] at r189
    clear hc1 hc2 hc3 hc4 hx hr1 hr2 hr3 q1 hd189
    clear hSp hdone
    clear hG hcl hdep hfr hK hfin hLi 
    go_simp
    exact HK.out
  | 10, ho =>
    simp only [opsPl37, List.getElem?_toArray, List.getElem?_cons_succ, List.getElem?_cons_zero, Option.some.injEq] at ho
    subst ho
    have x187 : a.tmps[187]?.getD undef = .bool false := by rw [← ev]; exact hG.val 2 2 187 _ rfl (hdep ⟨2, .data⟩ (by simp) rfl)
    have x194 : a.tmps[194]?.getD undef = .bool false := by rw [← ev]; exact hG.val 8 9 194 _ rfl (hdep ⟨9, .data⟩ (by simp) rfl)
    rw [if_pos (show Region.wanted _ _ = true from rfl)]
    have hfin := hK (.bool false) w (hG.quiet 9 10 195 _ rfl (by kernel_rfl) (by kernel_rfl))
    have HK := Lib.hid hfin
    clear hG hcl hdep hfr hK hfin hLi 
    go_simp
    exact HK.out
  | 11, ho =>
    simp only [opsPl37, List.getElem?_toArray, List.getElem?_cons_succ, List.getElem?_cons_zero, Option.some.injEq] at ho
    subst ho
    have x195 : a.tmps[195]?.getD undef = .bool false := by rw [← ev]; exact hG.val 9 10 195 _ rfl (hdep ⟨10, .data⟩ (by simp) rfl)
    rw [if_pos (show Region.wanted _ _ = true from rfl)]
    have hfin := hK (.bool false) w (hG.quiet 10 11 196 _ rfl (by kernel_rfl) (by kernel_rfl))
    have HK := Lib.hid hfin
    clear hG hcl hdep hfr hK hfin hLi 
    go_simp
    exact HK.out
  | 12, ho =>
    simp only [opsPl37, List.getElem?_toArray, List.getElem?_cons_succ, List.getElem?_cons_zero, Option.some.injEq] at ho
    subst ho
    have xg : a.tmps[196]?.getD undef = .bool false := by rw [← ev]; exact hG.val 10 11 196 _ rfl (hdep ⟨11, .guard⟩ (by simp) rfl)
    have hw := wanted_of (ops := opsPl37) (a := a) (o := { dst := some 197, op := Op.move (Operand.tmp 5), type := 23, pos := "law.go:115", after := #[{ on := 11, ground := Ground.guard }], guard := some (11, false) }) (g := 11) (s := 196) (b := false) (b' := false) rfl rfl xg
    replace hw := hw.trans (show (false == false) = true from rfl)
    rw [if_pos hw]
    clear hw xg
    have hfin := hK (.pointer (some ⟨d, 0, none⟩)) w (hG.quiet 11 12 197 _ rfl (by kernel_rfl) (by kernel_rfl))
    have HK := Lib.hid hfin
    clear hG hcl hdep hfr hK hfin hLi 
    go_simp
    exact HK.out
  | 13, ho =>
    simp only [opsPl37, List.getElem?_toArray, List.getElem?_cons_succ, List.getElem?_cons_zero, Option.some.injEq] at ho
    subst ho
    have x197 : a.tmps[197]?.getD undef = .pointer (some ⟨d, 0, none⟩) := by rw [← ev]; exact hG.val 11 12 197 _ rfl (hdep ⟨12, .data⟩ (by simp) rfl)
    have xg : a.tmps[196]?.getD undef = .bool false := by rw [← ev]; exact hG.val 10 11 196 _ rfl (hdep ⟨11, .chain⟩ (by simp) rfl)
    have hw := wanted_of (ops := opsPl37) (a := a) (o := { dst := some 198, op := Op.call { callee := Callee.value (Operand.func 13), args := #[Operand.tmp 197], argTypes := #[23] }, type := 3, pos := "law.go:115", after := #[{ on := 12, ground := Ground.data }, { on := 11, ground := Ground.chain }, { on := 11, ground := Ground.guard }], guard := some (11, false) }) (g := 11) (s := 196) (b := false) (b' := false) rfl rfl xg
    replace hw := hw.trans (show (false == false) = true from rfl)
    rw [if_pos hw]
    clear hw xg
    have hSj := hG.at 1 (13, 198) rfl hLi (fun c h0 hc => by simp [pl37C] at hc; subst hc; exact hcl 11 _ rfl (hdep ⟨11, .chain⟩ (by simp) rfl) ⟨4, .chain⟩ (by simp [opsPl37]) rfl)
    have hfin := fun v w' hs => hK v w' (hG.call 1 (13, 198) rfl hLi (fun c h0 hc => by simp [pl37C] at hc; subst hc; exact hcl 11 _ rfl (hdep ⟨11, .chain⟩ (by simp) rfl) ⟨4, .chain⟩ (by simp [opsPl37]) rfl) (by kernel_rfl) v w' hs)
    have HK := Lib.hid hfin
    generalize (resOf pl37C fun t => a.eval (.tmp t)) = R at *
    clear hG hcl hdep hfr hK hfin hLi
    have hc := Lib.hid (hc2 _ _ hSj)
    clear hSj hc1 hc2 hc3 hc4 hx hr1 hr2 hr3
    go_simp
    go_at_call 13
    refine hc.out.mono ?_
    rintro e w' ⟨v, rfl, hs⟩
    exact HK.out v w' hs
  | 14, ho =>
    simp only [opsPl37, List.getElem?_toArray, List.getElem?_cons_succ, List.getElem?_cons_zero, Option.some.injEq] at ho
    subst ho
    have xg : a.tmps[196]?.getD undef = .bool false := by rw [← ev]; exact hG.val 10 11 196 _ rfl (hdep ⟨11, .guard⟩ (by simp) rfl)
    have hw := wanted_of (ops := opsPl37) (a := a) (o := { dst := some 199, op := Op.move (Operand.tmp 7), type := 38, pos := "law.go:115", after := #[{ on := 11, ground := Ground.guard }], guard := some (11, false) }) (g := 11) (s := 196) (b := false) (b' := false) rfl rfl xg
    replace hw := hw.trans (show (false == false) = true from rfl)
    rw [if_pos hw]
    clear hw xg
    have hfin := hK (.pointer (some ⟨r, 0, none⟩)) w (hG.quiet 12 14 199 _ rfl (by kernel_rfl) (by kernel_rfl))
    have HK := Lib.hid hfin
    clear hG hcl hdep hfr hK hfin hLi 
    go_simp
    exact HK.out
  | 15, ho =>
    simp only [opsPl37, List.getElem?_toArray, List.getElem?_cons_succ, List.getElem?_cons_zero, Option.some.injEq] at ho
    subst ho
    have x199 : a.tmps[199]?.getD undef = .pointer (some ⟨r, 0, none⟩) := by rw [← ev]; exact hG.val 12 14 199 _ rfl (hdep ⟨14, .data⟩ (by simp) rfl)
    have xg : a.tmps[196]?.getD undef = .bool false := by rw [← ev]; exact hG.val 10 11 196 _ rfl (hdep ⟨11, .guard⟩ (by simp) rfl)
    have hw := wanted_of (ops := opsPl37) (a := a) (o := { dst := some 200, op := Op.call { callee := Callee.value (Operand.func 27), args := #[Operand.tmp 199], argTypes := #[38] }, type := 3, pos := "law.go:115", after := #[{ on := 14, ground := Ground.data }, { on := 13, ground := Ground.chain }, { on := 11, ground := Ground.guard }], guard := some (11, false) }) (g := 11) (s := 196) (b := false) (b' := false) rfl rfl xg
    replace hw := hw.trans (show (false == false) = true from rfl)
    rw [if_pos hw]
    clear hw xg
    have hSj := hG.at 2 (15, 200) rfl hLi (fun c h0 hc => by simp [pl37C] at hc; subst hc; exact hdep ⟨13, .chain⟩ (by simp) rfl)
    have hfin := fun v w' hs => hK v w' (hG.call 2 (15, 200) rfl hLi (fun c h0 hc => by simp [pl37C] at hc; subst hc; exact hdep ⟨13, .chain⟩ (by simp) rfl) (by kernel_rfl) v w' hs)
    have HK := Lib.hid hfin
    generalize (resOf pl37C fun t => a.eval (.tmp t)) = R at *
    clear hG hcl hdep hfr hK hfin hLi
    have hc := Lib.hid (hc3 _ _ hSj)
    clear hSj hc1 hc2 hc3 hc4 hx hr1 hr2 hr3
    go_simp
    go_at_call 27
    refine hc.out.mono ?_
    rintro e w' ⟨v, rfl, hs⟩
    exact HK.out v w' hs
  | 16, ho =>
    simp only [opsPl37, List.getElem?_toArray, List.getElem?_cons_succ, List.getElem?_cons_zero, Option.some.injEq] at ho
    subst ho
    have xg : a.tmps[196]?.getD undef = .bool false := by rw [← ev]; exact hG.val 10 11 196 _ rfl (hdep ⟨11, .guard⟩ (by simp) rfl)
    have hw := wanted_of (ops := opsPl37) (a := a) (o := { dst := some 201, op := Op.binOp BinOp.neq 3 (Operand.tmp 198) (Operand.tmp 200) 3, type := 4, pos := "law.go:115", after := #[{ on := 13, ground := Ground.data }, { on := 15, ground := Ground.data }, { on := 11, ground := Ground.guard }], guard := some (11, false) }) (g := 11) (s := 196) (b := false) (b' := false) rfl rfl xg
    replace hw := hw.trans (show (false == false) = true from rfl)
    rw [if_pos hw]
    clear hw xg
    obtain ⟨ph, hSp, hdone⟩ := hG.any
    have hd198 : 1 < ph := hdone 1 (13, 198) rfl (hdep ⟨13, .data⟩ (by simp) rfl)
    have r198 : a.tmps[198]?.getD undef = resOf pl37C (fun t => a.eval (.tmp t)) 1 := by rw [← ev]; exact (resOf_at (C := pl37C) (j := 1) rfl a).symm
    have hd200 : 2 < ph := hdone 2 (15, 200) rfl (hdep ⟨15, .data⟩ (by simp) rfl)
    have r200 : a.tmps[200]?.getD undef = resOf pl37C (fun t => a.eval (.tmp t)) 2 := by rw [← ev]; exact (resOf_at (C := pl37C) (j := 2) rfl a).symm
    have hfin := hK (.bool false) w (hG.quiet 13 16 201 _ rfl (by kernel_rfl) (by kernel_rfl))
    have HK := Lib.hid hfin
    generalize (resOf pl37C fun t => a.eval (.tmp t)) = R at *
    obtain ⟨q1, q2⟩ := hr2 _ _ _ hSp hd200
    rw [q1] at r198
    rw [q2] at r200
    clear hc1 hc2 hc3 hc4 hx hr1 hr2 hr3 q1 q2 hd198 hd200
    clear hSp hdone
    clear hG hcl hdep hfr hK hfin hLi 
    go_simp
    exact HK.out
  | 17, ho =>
    simp only [opsPl37, List.getElem?_toArray, List.getElem?_cons_succ, List.getElem?_cons_zero, Option.some.injEq] at ho
    subst ho
    have x196 : a.tmps[196]?.getD undef = .bool false := by rw [← ev]; exact hG.val 10 11 196 _ rfl (hdep ⟨11, .data⟩ (by simp) rfl)
    have x201 : a.tmps[201]?.getD undef = .bool false := by rw [← ev]; exact hG.val 13 16 201 _ rfl (hdep ⟨16, .data⟩ (by simp) rfl)
    rw [if_pos (show Region.wanted _ _ = true from rfl)]
    have hfin := hK (.bool false) w (hG.quiet 14 17 202 _ rfl (by kernel_rfl) (by kernel_rfl))
    have HK := Lib.hid hfin
    clear hG hcl hdep hfr hK hfin hLi 
    go_simp
    exact HK.out
  | 18, ho =>
    simp only [opsPl37, List.getElem?_toArray, List.getElem?_cons_succ, List.getElem?_cons_zero, Option.some.injEq] at ho
    subst ho
    have x202 : a.tmps[202]?.getD undef = .bool false := by rw [← ev]; exact hG.val 14 17 202 _ rfl (hdep ⟨17, .data⟩ (by simp) rfl)
    rw [if_pos (show Region.wanted _ _ = true from rfl)]
    have hfin := hK (.bool false) w (hG.quiet 15 18 203 _ rfl (by kernel_rfl) (by kernel_rfl))
    have HK := Lib.hid hfin
    clear hG hcl hdep hfr hK hfin hLi 
    go_simp
    exact HK.out
  | 19, ho =>
    simp only [opsPl37, List.getElem?_toArray, List.getElem?_cons_succ, List.getElem?_cons_zero, Option.some.injEq] at ho
    subst ho
    have xg : a.tmps[203]?.getD undef = .bool false := by rw [← ev]; exact hG.val 15 18 203 _ rfl (hdep ⟨18, .guard⟩ (by simp) rfl)
    have hw := wanted_of (ops := opsPl37) (a := a) (o := { dst := some 204, op := Op.move (Operand.tmp 5), type := 23, pos := "law.go:115", after := #[{ on := 18, ground := Ground.guard }], guard := some (18, false) }) (g := 18) (s := 203) (b := false) (b' := false) rfl rfl xg
    replace hw := hw.trans (show (false == false) = true from rfl)
    rw [if_pos hw]
    clear hw xg
    have hfin := hK (.pointer (some ⟨d, 0, none⟩)) w (hG.quiet 16 19 204 _ rfl (by kernel_rfl) (by kernel_rfl))
    have HK := Lib.hid hfin
    clear hG hcl hdep hfr hK hfin hLi 
    go_simp
    exact HK.out
  | 20, ho =>
    simp only [opsPl37, List.getElem?_toArray, List.getElem?_cons_succ, List.getElem?_cons_zero, Option.some.injEq] at ho
    subst ho
    have x204 : a.tmps[204]?.getD undef = .pointer (some ⟨d, 0, none⟩) := by rw [← ev]; exact hG.val 16 19 204 _ rfl (hdep ⟨19, .data⟩ (by simp) rfl)
    have xg : a.tmps[203]?.getD undef = .bool false := by rw [← ev]; exact hG.val 15 18 203 _ rfl (hdep ⟨18, .chain⟩ (by simp) rfl)
    have hw := wanted_of (ops := opsPl37) (a := a) (o := { dst := some 205, op := Op.call { callee := Callee.value (Operand.func 19), args := #[Operand.tmp 204], argTypes := #[23] }, type := 3, pos := "law.go:115", after := #[{ on := 19, ground := Ground.data }, { on := 18, ground := Ground.chain }, { on := 18, ground := Ground.guard }], guard := some (18, false) }) (g := 18) (s := 203) (b := false) (b' := false) rfl rfl xg
    replace hw := hw.trans (show (false == false) = true from rfl)
    rw [if_pos hw]
    clear hw xg
    have hSj := hG.at 3 (20, 205) rfl hLi (fun c h0 hc => by simp [pl37C] at hc; subst hc; exact hcl 18 _ rfl (hdep ⟨18, .chain⟩ (by simp) rfl) ⟨15, .chain⟩ (by simp [opsPl37]) rfl)
    have hfin := fun v w' hs => hK v w' (hG.call 3 (20, 205) rfl hLi (fun c h0 hc => by simp [pl37C] at hc; subst hc; exact hcl 18 _ rfl (hdep ⟨18, .chain⟩ (by simp) rfl) ⟨15, .chain⟩ (by simp [opsPl37]) rfl) (by kernel_rfl) v w' hs)
    have HK := Lib.hid hfin
    generalize (resOf pl37C fun t => a.eval (.tmp t)) = R at *
    clear hG hcl hdep hfr hK hfin hLi
    have hc := Lib.hid (hc4 _ _ hSj)
    clear hSj hc1 hc2 hc3 hc4 hx hr1 hr2 hr3
    go_simp
    go_at_call 19
    refine hc.out.mono ?_
    rintro e w' ⟨v, rfl, hs⟩
    exact HK.out v w' hs
  | 21, ho =>
    simp only [opsPl37, List.getElem?_toArray, List.getElem?_cons_succ, List.getElem?_cons_zero, Option.some.injEq] at ho
    subst ho
    have xg : a.tmps[203]?.getD undef = .bool false := by rw [← ev]; exact hG.val 15 18 203 _ rfl (hdep ⟨18, .guard⟩ (by simp) rfl)
    have hw := wanted_of (ops := opsPl37) (a := a) (o := { dst := some 206, op := Op.move (Operand.tmp 0), type := 3, pos := "law.go:115", after := #[{ on := 18, ground := Ground.guard }], guard := some (18, false) }) (g := 18) (s := 203) (b := false) (b' := false) rfl rfl xg
    replace hw := hw.trans (show (false == false) = true from rfl)
    rw [if_pos hw]
    clear hw xg
    have hfin := hK (.int .i64 (n : Int)) w (hG.quiet 17 21 206 _ rfl (by kernel_rfl) (by kernel_rfl))
    have HK := Lib.hid hfin
    clear hG hcl hdep hfr hK hfin hLi 
    go_simp
    exact HK.out
  | 22, ho =>
    simp only [opsPl37, List.getElem?_toArray, List.getElem?_cons_succ, List.getElem?_cons_zero, Option.some.injEq] at ho
    subst ho
    have x206 : a.tmps[206]?.getD undef = .int .i64 (n : Int) := by rw [← ev]; exact hG.val 17 21 206 _ rfl (hdep ⟨21, .data⟩ (by simp) rfl)
    have xg : a.tmps[203]?.getD undef = .bool false := by rw [← ev]; exact hG.val 15 18 203 _ rfl (hdep ⟨18, .guard⟩ (by simp) rfl)
    have hw := wanted_of (ops := opsPl37) (a := a) (o := { dst := some 207, op := Op.binOp BinOp.neq 3 (Operand.tmp 205) (Operand.tmp 206) 3, type := 4, pos := "law.go:115", after := #[{ on := 20, ground := Ground.data }, { on := 21, ground := Ground.data }, { on := 18, ground := Ground.guard }], guard := some (18, false) }) (g := 18) (s := 203) (b := false) (b' := false) rfl rfl xg
    replace hw := hw.trans (show (false == false) = true from rfl)
    rw [if_pos hw]
    clear hw xg
    obtain ⟨ph, hSp, hdone⟩ := hG.any
    have hd205 : 3 < ph := hdone 3 (20, 205) rfl (hdep ⟨20, .data⟩ (by simp) rfl)
    have r205 : a.tmps[205]?.getD undef = resOf pl37C (fun t => a.eval (.tmp t)) 3 := by rw [← ev]; exact (resOf_at (C := pl37C) (j := 3) rfl a).symm
    have hfin := hK (.bool false) w (hG.quiet 18 22 207 _ rfl (by kernel_rfl) (by kernel_rfl))
    have HK := Lib.hid hfin
    generalize (resOf pl37C fun t => a.eval (.tmp t)) = R at *
    have q1 := hr3 _ _ _ hSp hd205
    rw [q1] at r205
    clear hc1 hc2 hc3 hc4 hx hr1 hr2 hr3 q1 hd205
    clear hSp hdone
    clear hG hcl hdep hfr hK hfin hLi 
    go_simp
    exact HK.out
  | 23, ho =>
    simp only [opsPl37, List.getElem?_toArray, List.getElem?_cons_succ, List.getElem?_cons_zero, Option.some.injEq] at ho
    subst ho
    have x203 : a.tmps[203]?.getD undef = .bool false := by rw [← ev]; exact hG.val 15 18 203 _ rfl (hdep ⟨18, .data⟩ (by simp) rfl)
    have x207 : a.tmps[207]?.getD undef = .bool false := by rw [← ev]; exact hG.val 18 22 207 _ rfl (hdep ⟨22, .data⟩ (by simp) rfl)
    rw [if_pos (show Region.wanted _ _ = true from rfl)]
    have hfin := hK (.bool false) w (hG.quiet 19 23 208 _ rfl (by kernel_rfl) (by kernel_rfl))
    have HK := Lib.hid hfin
    clear hG hcl hdep hfr hK hfin hLi 
    go_simp
    exact HK.out
  | n + 24, ho => exact absurd (Array.getElem?_eq_some_iff.1 ho).1 (by show ¬ n + 24 < 24; omega)
end Go.Proofs.Ytelcedbcegbbjaa
