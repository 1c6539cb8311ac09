/- DevPlays: a write to both. -/
import Derived.Test.YtelcedbcegbbjaaVals
import Derived.Test.YtelcedbcegbbjaaDevPair
import Derived.Test.YtelcedbcegbbjaaDevActs
import Derived.WalkKit
import Derived.WalkSpells
import Derived.WalkLawsBesides
import Derived.Lib.Hide
import Derived.Laws.Entries
namespace Go.Proofs.Ytelcedbcegbbjaa
open Go.RowKit Dk
set_option linter.unusedVariables false
set_option linter.unusedSimpArgs false

def opsPl21 : Array Oper := #[
  { dst := some 99, op := Op.move (Operand.tmp 5), type := 23, pos := "law.go:93", after := #[], guard := none },
  { dst := some 100, op := Op.fieldAddr 41 (Operand.tmp 9) 1, type := 0, pos := "law.go:93", after := #[], guard := none },
  { dst := some 101, op := Op.load 3 (Operand.tmp 100), type := 3, pos := "law.go:93", after := #[{ on := 1, ground := Ground.data }], guard := none },
  { dst := some 102, op := Op.fieldAddr 41 (Operand.tmp 9) 3, type := 0, pos := "law.go:93", after := #[], guard := none },
  { dst := some 103, op := Op.load 5 (Operand.tmp 102), type := 5, pos := "law.go:93", after := #[{ on := 3, ground := Ground.data }], guard := none },
  { dst := some 104, op := Op.call { callee := Callee.value (Operand.func 11), args := #[Operand.tmp 103], argTypes := #[5] }, type := 28, pos := "law.go:93", after := #[{ on := 4, ground := Ground.data }], guard := none },
  { dst := some 105, op := Op.call { callee := Callee.value (Operand.func 10), args := #[Operand.tmp 99, Operand.tmp 101, Operand.tmp 104], argTypes := #[23, 3, 28] }, type := 24, pos := "law.go:93", after := #[{ on := 0, ground := Ground.data }, { on := 2, ground := Ground.data }, { on := 5, ground := Ground.data }, { on := 5, ground := Ground.chain }], guard := none },
  { dst := some 106, op := Op.move (Operand.tmp 7), type := 38, pos := "law.go:93", after := #[], guard := none },
  { dst := some 107, op := Op.fieldAddr 41 (Operand.tmp 9) 1, type := 0, pos := "law.go:93", after := #[], guard := none },
  { dst := some 108, op := Op.load 3 (Operand.tmp 107), type := 3, pos := "law.go:93", after := #[{ on := 8, ground := Ground.data }], guard := none },
  { dst := some 109, op := Op.fieldAddr 41 (Operand.tmp 9) 3, type := 0, pos := "law.go:93", after := #[], guard := none },
  { dst := some 110, op := Op.load 5 (Operand.tmp 109), type := 5, pos := "law.go:93", after := #[{ on := 10, ground := Ground.data }], guard := none },
  { dst := some 111, op := Op.call { callee := Callee.value (Operand.func 11), args := #[Operand.tmp 110], argTypes := #[5] }, type := 28, pos := "law.go:93", after := #[{ on := 11, ground := Ground.data }, { on := 6, ground := Ground.chain }], guard := none },
  { dst := some 112, op := Op.call { callee := Callee.value (Operand.func 21), args := #[Operand.tmp 106, Operand.tmp 108, Operand.tmp 111], argTypes := #[38, 3, 28] }, type := 24, pos := "law.go:93", after := #[{ on := 7, ground := Ground.data }, { on := 9, ground := Ground.data }, { on := 12, ground := Ground.data }, { on := 12, ground := Ground.chain }], guard := none },
  { dst := some 113, op := Op.binOp BinOp.eql 24 (Operand.tmp 105) (Operand.tmp 112) 24, type := 4, pos := "law.go:93", after := #[{ on := 6, ground := Ground.data }, { on := 13, ground := Ground.data }], guard := none },
  { dst := some 10, op := Op.assign (Operand.tmp 113), type := 4, pos := "law.go:93", after := #[{ on := 14, ground := Ground.data }, { on := 13, ground := Ground.chain }, { on := 0, ground := Ground.phase }, { on := 1, ground := Ground.phase }, { on := 2, ground := Ground.phase }, { on := 3, ground := Ground.phase }, { on := 4, ground := Ground.phase }, { on := 5, ground := Ground.phase }, { on := 6, ground := Ground.phase }, { on := 7, ground := Ground.phase }, { on := 8, ground := Ground.phase }, { on := 9, ground := Ground.phase }, { on := 10, ground := Ground.phase }, { on := 11, ground := Ground.phase }, { on := 12, ground := Ground.phase }, { on := 13, ground := Ground.phase }, { on := 14, ground := Ground.phase }], guard := none }]

def pl21Vals (xb d r : Nat) (at_ er : Int) (x : UInt8) : List (Nat × Nat × Value) := [(0, 99, .pointer (some ⟨d, 0, none⟩)), (1, 100, .pointer (some ⟨xb, 1, none⟩)), (2, 101, .int .i64 at_), (3, 102, .pointer (some ⟨xb, 3, none⟩)), (4, 103, .int .u8 (x.toNat : Int)), (7, 106, .pointer (some ⟨r, 0, none⟩)), (8, 107, .pointer (some ⟨xb, 1, none⟩)), (9, 108, .int .i64 at_), (10, 109, .pointer (some ⟨xb, 3, none⟩)), (11, 110, .int .u8 (x.toNat : Int)), (14, 113, .bool true), (15, 10, .bool true)]
def pl21C : List (Nat × Nat) := [(5, 104), (6, 105), (12, 111), (13, 112)]

set_option maxHeartbeats 4000000 in
set_option maxRecDepth 100000 in
theorem pl21 {Q : Exit → Act → World → Prop} {a0 : Act} {wp : World} (xb d r : Nat) (at_ er : Int) (x : UInt8) (S : Nat → (Nat → Value) → World → Prop)
    (hsz : 113 < a0.tmps.size) (in5 : a0.eval (.tmp 5) = .pointer (some ⟨d, 0, none⟩)) (in7 : a0.eval (.tmp 7) = .pointer (some ⟨r, 0, none⟩)) (in9 : a0.eval (.tmp 9) = .pointer (some ⟨xb, 0, none⟩))
    (hx : ∀ p R w, S p R w → w.cell? ⟨xb, 1, none⟩ = some (.int .i64 at_) ∧ w.cell? ⟨xb, 3, none⟩ = some (.int .u8 (x.toNat : Int)))
    (hc1 : ∀ R w, S 0 R w → Calls Try.prog 11 #[.int .u8 (x.toNat : Int)] w fun e w' => ∃ v, e = .returned v ∧ S 1 (setR R 0 v) w')
    (hc2 : ∀ R w, S 1 R w → ∃ A2, R 0 = .slice A2 512 512 ∧ Calls Try.prog 10 #[.pointer (some ⟨d, 0, none⟩), .int .i64 at_, .slice A2 512 512] w fun e w' => ∃ v, e = .returned v ∧ S 2 (setR R 1 v) w')
    (hc3 : ∀ R w, S 2 R w → Calls Try.prog 11 #[.int .u8 (x.toNat : Int)] w fun e w' => ∃ v, e = .returned v ∧ S 3 (setR R 2 v) w')
    (hc4 : ∀ R w, S 3 R w → ∃ A2, R 2 = .slice A2 512 512 ∧ Calls Try.prog 21 #[.pointer (some ⟨r, 0, none⟩), .int .i64 at_, .slice A2 512 512] w fun e w' => ∃ v, e = .returned v ∧ S 4 (setR R 3 v) w')
    (hr : ∀ p R w, S p R w → 3 < p → R 1 = .int .i64 er ∧ R 3 = .int .i64 er)
    (hS : S 0 (resOf pl21C fun t => a0.eval (.tmp t)) wp.drew)
    (fin : ∀ a w, Fr [99, 100, 101, 102, 103, 104, 105, 106, 107, 108, 109, 110, 111, 112, 113, 10] a0 a → a.eval (.tmp 10) = .bool true → S 4 (resOf pl21C fun t => a.eval (.tmp t)) w → Q .normal a w) :
    (Code.region 21 opsPl21 true).wp Try.prog Q a0 wp := by
  refine region_inv (by kernel_rfl) [99, 100, 101, 102, 103, 104, 105, 106, 107, 108, 109, 110, 111, 112, 113, 10] (by kernel_rfl) (by kernel_rfl) (fun t ht => by simp at ht; omega) (GV (pl21Vals xb d r at_ er x) pl21C S) (.start hS) ?_
    (fun L a w hf hall hG => fin a w hf (hG.val 11 15 10 _ rfl (hall 15 (by decide))) (hG.fin (fun c hc => by simp [pl21C] at hc; rcases hc with rfl | rfl | rfl | rfl <;> exact hall _ (by decide))))
  clear hS fin
  intro ix oo ho L a w hfr hG hLi hdep hcl K hK
  have e5 : a.tmps[5]?.getD undef = .pointer (some ⟨d, 0, none⟩) := by rw [← ev]; exact (hfr.same 5 (by decide)).trans in5
  have e7 : a.tmps[7]?.getD undef = .pointer (some ⟨r, 0, none⟩) := by rw [← ev]; exact (hfr.same 7 (by decide)).trans in7
  have e9 : a.tmps[9]?.getD undef = .pointer (some ⟨xb, 0, none⟩) := by rw [← ev]; exact (hfr.same 9 (by decide)).trans in9
  clear in5 in7 in9
  match ix, ho with
  | 0, ho =>
    simp only [opsPl21, List.getElem?_toArray, List.getElem?_cons_zero, Option.some.injEq] at ho
    subst ho
    rw [if_pos (show Region.wanted _ _ = true from rfl)]
    have hfin := hK (.pointer (some ⟨d, 0, none⟩)) w (hG.quiet 0 0 99 _ rfl (by kernel_rfl) (by kernel_rfl))
    have HK := Lib.hid hfin
    clear hG hcl hdep hfr hK hfin hLi 
    go_simp
    exact HK.out
  | 1, ho =>
    simp only [opsPl21, List.getElem?_toArray, List.getElem?_cons_succ, List.getElem?_cons_zero, Option.some.injEq] at ho
    subst ho
    rw [if_pos (show Region.wanted _ _ = true from rfl)]
    have hfin := hK (.pointer (some ⟨xb, 1, none⟩)) w (hG.quiet 1 1 100 _ rfl (by kernel_rfl) (by kernel_rfl))
    have HK := Lib.hid hfin
    clear hG hcl hdep hfr hK hfin hLi 
    go_simp
    exact HK.out
  | 2, ho =>
    simp only [opsPl21, List.getElem?_toArray, List.getElem?_cons_succ, List.getElem?_cons_zero, Option.some.injEq] at ho
    subst ho
    have x100 : a.tmps[100]?.getD undef = .pointer (some ⟨xb, 1, none⟩) := by rw [← ev]; exact hG.val 1 1 100 _ rfl (hdep ⟨1, .data⟩ (by simp) rfl)
    rw [if_pos (show Region.wanted _ _ = true from rfl)]
    obtain ⟨ph, hSp, hdone⟩ := hG.any
    have hfin := hK (.int .i64 at_) w (hG.quiet 2 2 101 _ rfl (by kernel_rfl) (by kernel_rfl))
    have HK := Lib.hid hfin
    generalize (resOf pl21C fun t => a.eval (.tmp t)) = R at *
    obtain ⟨q1, q2⟩ := hx _ _ _ hSp
    clear hc1 hc2 hc3 hc4 hx hr
    clear hSp hdone
    clear hG hcl hdep hfr hK hfin hLi 
    go_simp
    exact HK.out
  | 3, ho =>
    simp only [opsPl21, List.getElem?_toArray, List.getElem?_cons_succ, List.getElem?_cons_zero, Option.some.injEq] at ho
    subst ho
    rw [if_pos (show Region.wanted _ _ = true from rfl)]
    have hfin := hK (.pointer (some ⟨xb, 3, none⟩)) w (hG.quiet 3 3 102 _ rfl (by kernel_rfl) (by kernel_rfl))
    have HK := Lib.hid hfin
    clear hG hcl hdep hfr hK hfin hLi 
    go_simp
    exact HK.out
  | 4, ho =>
    simp only [opsPl21, List.getElem?_toArray, List.getElem?_cons_succ, List.getElem?_cons_zero, Option.some.injEq] at ho
    subst ho
    have x102 : a.tmps[102]?.getD undef = .pointer (some ⟨xb, 3, none⟩) := by rw [← ev]; exact hG.val 3 3 102 _ rfl (hdep ⟨3, .data⟩ (by simp) rfl)
    rw [if_pos (show Region.wanted _ _ = true from rfl)]
    obtain ⟨ph, hSp, hdone⟩ := hG.any
    have hfin := hK (.int .u8 (x.toNat : Int)) w (hG.quiet 4 4 103 _ rfl (by kernel_rfl) (by kernel_rfl))
    have HK := Lib.hid hfin
    generalize (resOf pl21C fun t => a.eval (.tmp t)) = R at *
    obtain ⟨q1, q2⟩ := hx _ _ _ hSp
    clear hc1 hc2 hc3 hc4 hx hr
    clear hSp hdone
    clear hG hcl hdep hfr hK hfin hLi 
    go_simp
    exact HK.out
  | 5, ho =>
    simp only [opsPl21, List.getElem?_toArray, List.getElem?_cons_succ, List.getElem?_cons_zero, Option.some.injEq] at ho
    subst ho
    have x103 : a.tmps[103]?.getD undef = .int .u8 (x.toNat : Int) := by rw [← ev]; exact hG.val 4 4 103 _ rfl (hdep ⟨4, .data⟩ (by simp) rfl)
    rw [if_pos (show Region.wanted _ _ = true from rfl)]
    have hSj := hG.at 0 (5, 104) rfl hLi (fun c h0 hc => absurd h0 (by decide))
    have hfin := fun v w' hs => hK v w' (hG.call 0 (5, 104) rfl hLi (fun c h0 hc => absurd h0 (by decide)) (by kernel_rfl) v w' hs)
    have HK := Lib.hid hfin
    generalize (resOf pl21C fun t => a.eval (.tmp t)) = R at *
    clear hG hcl hdep hfr hK hfin hLi
    have hc := Lib.hid (hc1 _ _ hSj)
    clear hSj hc1 hc2 hc3 hc4 hx hr
    go_simp
    go_at_call 11
    refine hc.out.mono ?_
    rintro e w' ⟨v, rfl, hs⟩
    exact HK.out v w' hs
  | 6, ho =>
    simp only [opsPl21, List.getElem?_toArray, List.getElem?_cons_succ, List.getElem?_cons_zero, Option.some.injEq] at ho
    subst ho
    have x99 : a.tmps[99]?.getD undef = .pointer (some ⟨d, 0, none⟩) := by rw [← ev]; exact hG.val 0 0 99 _ rfl (hdep ⟨0, .data⟩ (by simp) rfl)
    have x101 : a.tmps[101]?.getD undef = .int .i64 at_ := by rw [← ev]; exact hG.val 2 2 101 _ rfl (hdep ⟨2, .data⟩ (by simp) rfl)
    rw [if_pos (show Region.wanted _ _ = true from rfl)]
    have hSj := hG.at 1 (6, 105) rfl hLi (fun c h0 hc => by simp [pl21C] at hc; subst hc; exact hdep ⟨5, .data⟩ (by simp) rfl)
    have r104 : a.tmps[104]?.getD undef = resOf pl21C (fun t => a.eval (.tmp t)) 0 := by rw [← ev]; exact (resOf_at (C := pl21C) (j := 0) rfl a).symm
    have hfin := fun v w' hs => hK v w' (hG.call 1 (6, 105) rfl hLi (fun c h0 hc => by simp [pl21C] at hc; subst hc; exact hdep ⟨5, .data⟩ (by simp) rfl) (by kernel_rfl) v w' hs)
    have HK := Lib.hid hfin
    generalize (resOf pl21C fun t => a.eval (.tmp t)) = R at *
    clear hG hcl hdep hfr hK hfin hLi
    obtain ⟨A2, q1, hcc⟩ := hc2 _ _ hSj
    rw [q1] at r104
    have hc := Lib.hid hcc
    clear hSj q1 hcc hc1 hc2 hc3 hc4 hx hr
    go_simp
    go_at_call 10
    refine hc.out.mono ?_
    rintro e w' ⟨v, rfl, hs⟩
    exact HK.out v w' hs
  | 7, ho =>
    simp only [opsPl21, List.getElem?_toArray, List.getElem?_cons_succ, List.getElem?_cons_zero, Option.some.injEq] at ho
    subst ho
    rw [if_pos (show Region.wanted _ _ = true from rfl)]
    have hfin := hK (.pointer (some ⟨r, 0, none⟩)) w (hG.quiet 5 7 106 _ rfl (by kernel_rfl) (by kernel_rfl))
    have HK := Lib.hid hfin
    clear hG hcl hdep hfr hK hfin hLi 
    go_simp
    exact HK.out
  | 8, ho =>
    simp only [opsPl21, List.getElem?_toArray, List.getElem?_cons_succ, List.getElem?_cons_zero, Option.some.injEq] at ho
    subst ho
    rw [if_pos (show Region.wanted _ _ = true from rfl)]
    have hfin := hK (.pointer (some ⟨xb, 1, none⟩)) w (hG.quiet 6 8 107 _ rfl (by kernel_rfl) (by kernel_rfl))
    have HK := Lib.hid hfin
    clear hG hcl hdep hfr hK hfin hLi 
    go_simp
    exact HK.out
  | 9, ho =>
    simp only [opsPl21, List.getElem?_toArray, List.getElem?_cons_succ, List.getElem?_cons_zero, Option.some.injEq] at ho
    subst ho
    have x107 : a.tmps[107]?.getD undef = .pointer (some ⟨xb, 1, none⟩) := by rw [← ev]; exact hG.val 6 8 107 _ rfl (hdep ⟨8, .data⟩ (by simp) rfl)
    rw [if_pos (show Region.wanted _ _ = true from rfl)]
    obtain ⟨ph, hSp, hdone⟩ := hG.any
    have hfin := hK (.int .i64 at_) w (hG.quiet 7 9 108 _ rfl (by kernel_rfl) (by kernel_rfl))
    have HK := Lib.hid hfin
    generalize (resOf pl21C fun t => a.eval (.tmp t)) = R at *
    obtain ⟨q1, q2⟩ := hx _ _ _ hSp
    clear hc1 hc2 hc3 hc4 hx hr
    clear hSp hdone
    clear hG hcl hdep hfr hK hfin hLi 
    go_simp
    exact HK.out
  | 10, ho =>
    simp only [opsPl21, List.getElem?_toArray, List.getElem?_cons_succ, List.getElem?_cons_zero, Option.some.injEq] at ho
    subst ho
    rw [if_pos (show Region.wanted _ _ = true from rfl)]
    have hfin := hK (.pointer (some ⟨xb, 3, none⟩)) w (hG.quiet 8 10 109 _ rfl (by kernel_rfl) (by kernel_rfl))
    have HK := Lib.hid hfin
    clear hG hcl hdep hfr hK hfin hLi 
    go_simp
    exact HK.out
  | 11, ho =>
    simp only [opsPl21, List.getElem?_toArray, List.getElem?_cons_succ, List.getElem?_cons_zero, Option.some.injEq] at ho
    subst ho
    have x109 : a.tmps[109]?.getD undef = .pointer (some ⟨xb, 3, none⟩) := by rw [← ev]; exact hG.val 8 10 109 _ rfl (hdep ⟨10, .data⟩ (by simp) rfl)
    rw [if_pos (show Region.wanted _ _ = true from rfl)]
    obtain ⟨ph, hSp, hdone⟩ := hG.any
    have hfin := hK (.int .u8 (x.toNat : Int)) w (hG.quiet 9 11 110 _ rfl (by kernel_rfl) (by kernel_rfl))
    have HK := Lib.hid hfin
    generalize (resOf pl21C fun t => a.eval (.tmp t)) = R at *
    obtain ⟨q1, q2⟩ := hx _ _ _ hSp
    clear hc1 hc2 hc3 hc4 hx hr
    clear hSp hdone
    clear hG hcl hdep hfr hK hfin hLi 
    go_simp
    exact HK.out
  | 12, ho =>
    simp only [opsPl21, List.getElem?_toArray, List.getElem?_cons_succ, List.getElem?_cons_zero, Option.some.injEq] at ho
    subst ho
    have x110 : a.tmps[110]?.getD undef = .int .u8 (x.toNat : Int) := by rw [← ev]; exact hG.val 9 11 110 _ rfl (hdep ⟨11, .data⟩ (by simp) rfl)
    rw [if_pos (show Region.wanted _ _ = true from rfl)]
    have hSj := hG.at 2 (12, 111) rfl hLi (fun c h0 hc => by simp [pl21C] at hc; subst hc; exact hdep ⟨6, .chain⟩ (by simp) rfl)
    have hfin := fun v w' hs => hK v w' (hG.call 2 (12, 111) rfl hLi (fun c h0 hc => by simp [pl21C] at hc; subst hc; exact hdep ⟨6, .chain⟩ (by simp) rfl) (by kernel_rfl) v w' hs)
    have HK := Lib.hid hfin
    generalize (resOf pl21C fun t => a.eval (.tmp t)) = R at *
    clear hG hcl hdep hfr hK hfin hLi
    have hc := Lib.hid (hc3 _ _ hSj)
    clear hSj hc1 hc2 hc3 hc4 hx hr
    go_simp
    go_at_call 11
    refine hc.out.mono ?_
    rintro e w' ⟨v, rfl, hs⟩
    exact HK.out v w' hs
  | 13, ho =>
    simp only [opsPl21, List.getElem?_toArray, List.getElem?_cons_succ, List.getElem?_cons_zero, Option.some.injEq] at ho
    subst ho
    have x106 : a.tmps[106]?.getD undef = .pointer (some ⟨r, 0, none⟩) := by rw [← ev]; exact hG.val 5 7 106 _ rfl (hdep ⟨7, .data⟩ (by simp) rfl)
    have x108 : a.tmps[108]?.getD undef = .int .i64 at_ := by rw [← ev]; exact hG.val 7 9 108 _ rfl (hdep ⟨9, .data⟩ (by simp) rfl)
    rw [if_pos (show Region.wanted _ _ = true from rfl)]
    have hSj := hG.at 3 (13, 112) rfl hLi (fun c h0 hc => by simp [pl21C] at hc; subst hc; exact hdep ⟨12, .data⟩ (by simp) rfl)
    have r111 : a.tmps[111]?.getD undef = resOf pl21C (fun t => a.eval (.tmp t)) 2 := by rw [← ev]; exact (resOf_at (C := pl21C) (j := 2) rfl a).symm
    have hfin := fun v w' hs => hK v w' (hG.call 3 (13, 112) rfl hLi (fun c h0 hc => by simp [pl21C] at hc; subst hc; exact hdep ⟨12, .data⟩ (by simp) rfl) (by kernel_rfl) v w' hs)
    have HK := Lib.hid hfin
    generalize (resOf pl21C fun t => a.eval (.tmp t)) = R at *
    clear hG hcl hdep hfr hK hfin hLi
    obtain ⟨A2, q1, hcc⟩ := hc4 _ _ hSj
    rw [q1] at r111
    have hc := Lib.hid hcc
    clear hSj q1 hcc hc1 hc2 hc3 hc4 hx hr
    go_simp
    go_at_call 21
    refine hc.out.mono ?_
    rintro e w' ⟨v, rfl, hs⟩
    exact HK.out v w' hs
  | 14, ho =>
    simp only [opsPl21, List.getElem?_toArray, List.getElem?_cons_succ, List.getElem?_cons_zero, Option.some.injEq] at ho
    subst ho
    rw [if_pos (show Region.wanted _ _ = true from rfl)]
    obtain ⟨ph, hSp, hdone⟩ := hG.any
    have hd105 : 1 < ph := hdone 1 (6, 105) rfl (hdep ⟨6, .data⟩ (by simp) rfl)
    have r105 : a.tmps[105]?.getD undef = resOf pl21C (fun t => a.eval (.tmp t)) 1 := by rw [← ev]; exact (resOf_at (C := pl21C) (j := 1) rfl a).symm
    have hd112 : 3 < ph := hdone 3 (13, 112) rfl (hdep ⟨13, .data⟩ (by simp) rfl)
    have r112 : a.tmps[112]?.getD undef = resOf pl21C (fun t => a.eval (.tmp t)) 3 := by rw [← ev]; exact (resOf_at (C := pl21C) (j := 3) rfl a).symm
    have hfin := hK (.bool true) w (hG.quiet 10 14 113 _ rfl (by kernel_rfl) (by kernel_rfl))
    have HK := Lib.hid hfin
    generalize (resOf pl21C fun t => a.eval (.tmp t)) = R at *
    obtain ⟨q1, q2⟩ := hr _ _ _ hSp hd112
    rw [q1] at r105
    rw [q2] at r112
    clear hc1 hc2 hc3 hc4 hx hr q1 q2 hd105 hd112
    clear hSp hdone
    clear hG hcl hdep hfr hK hfin hLi 
    go_simp
    exact HK.out
  | 15, ho =>
    simp only [opsPl21, List.getElem?_toArray, List.getElem?_cons_succ, List.getElem?_cons_zero, Option.some.injEq] at ho
    subst ho
    have x113 : a.tmps[113]?.getD undef = .bool true := by rw [← ev]; exact hG.val 10 14 113 _ rfl (hdep ⟨14, .data⟩ (by simp) rfl)
    rw [if_pos (show Region.wanted _ _ = true from rfl)]
    have hfin := hK (.bool true) w (hG.quiet 11 15 10 _ rfl (by kernel_rfl) (by kernel_rfl))
    have HK := Lib.hid hfin
    clear hG hcl hdep hfr hK hfin hLi 
    go_simp
    exact HK.out
  | n + 16, ho => exact absurd (Array.getElem?_eq_some_iff.1 ho).1 (by show ¬ n + 16 < 16; omega)
end Go.Proofs.Ytelcedbcegbbjaa
