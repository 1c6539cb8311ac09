/- date's Day: what stands in the places of the numbers. -/
import Derived.Test.YtgkibkophoikoaaDoorVals
import Derived.Test.YtgkibkophoikoaaDoorAppend
import Derived.WalkKit
import Derived.WalkSpells
import Derived.WalkLawsBesides
import Derived.Lib.Hide
import Derived.Laws.Strings3
namespace Go.Proofs.YtgkibkophoikoaaDoor
open Go.RowKit
set_option linter.unusedVariables false
set_option linter.unusedSimpArgs false

def opsDay5 : Array Oper := #[
  { dst := some 25, op := Op.move (Operand.tmp 0), type := 9, pos := "date.go:129", after := #[], guard := none },
  { dst := some 26, op := Op.slice 9 (Operand.tmp 25) (some (Operand.const (Value.int IntKind.i64 7))) none none, type := 9, pos := "date.go:129", after := #[{ on := 0, ground := Ground.data }], guard := none },
  { dst := some 27, op := Op.call { callee := Callee.value (Operand.func 23), args := #[Operand.tmp 26], argTypes := #[9] }, type := 3, pos := "date.go:129", after := #[{ on := 1, ground := Ground.data }], guard := none },
  { dst := some 28, op := Op.move (Operand.tmp 0), type := 9, pos := "date.go:129", after := #[], guard := none },
  { dst := some 29, op := Op.slice 9 (Operand.tmp 28) (some (Operand.const (Value.int IntKind.i64 3))) (some (Operand.const (Value.int IntKind.i64 6))) none, type := 9, pos := "date.go:129", after := #[{ on := 3, ground := Ground.data }], guard := none },
  { dst := some 30, op := Op.call { callee := Callee.value (Operand.func 25), args := #[Operand.tmp 29], argTypes := #[9] }, type := 3, pos := "date.go:129", after := #[{ on := 4, ground := Ground.data }, { on := 2, ground := Ground.chain }], guard := none },
  { dst := some 31, op := Op.move (Operand.tmp 0), type := 9, pos := "date.go:129", after := #[], guard := none },
  { dst := some 32, op := Op.slice 9 (Operand.tmp 31) none (some (Operand.const (Value.int IntKind.i64 2))) none, type := 9, pos := "date.go:129", after := #[{ on := 6, ground := Ground.data }], guard := none },
  { dst := some 33, op := Op.call { callee := Callee.value (Operand.func 23), args := #[Operand.tmp 32], argTypes := #[9] }, type := 3, pos := "date.go:129", after := #[{ on := 7, ground := Ground.data }, { on := 5, ground := Ground.chain }], guard := none },
  { dst := some 4, op := Op.assign (Operand.tmp 27), type := 3, pos := "date.go:129", after := #[{ on := 2, ground := Ground.data }, { on := 8, ground := Ground.chain }, { on := 0, ground := Ground.phase }, { on := 1, ground := Ground.phase }, { on := 2, ground := Ground.phase }, { on := 3, ground := Ground.textOnly Departure.lateStores }, { on := 4, ground := Ground.textOnly Departure.lateStoresUnsure }, { on := 5, ground := Ground.textOnly Departure.lateStoresUnsure }, { on := 6, ground := Ground.textOnly Departure.lateStores }, { on := 7, ground := Ground.textOnly Departure.lateStoresUnsure }, { on := 8, ground := Ground.textOnly Departure.lateStoresUnsure }], guard := none },
  { dst := some 5, op := Op.assign (Operand.tmp 30), type := 3, pos := "date.go:129", after := #[{ on := 5, ground := Ground.data }, { on := 9, ground := Ground.chain }, { on := 0, ground := Ground.phase }, { on := 1, ground := Ground.phase }, { on := 2, ground := Ground.phase }, { on := 3, ground := Ground.phase }, { on := 4, ground := Ground.phase }, { on := 5, ground := Ground.phase }, { on := 6, ground := Ground.textOnly Departure.lateStores }, { on := 7, ground := Ground.textOnly Departure.lateStoresUnsure }, { on := 8, ground := Ground.textOnly Departure.lateStoresUnsure }, { on := 9, ground := Ground.phase }], guard := none },
  { dst := some 6, op := Op.assign (Operand.tmp 33), type := 3, pos := "date.go:129", after := #[{ on := 8, ground := Ground.data }, { on := 10, ground := Ground.chain }, { on := 0, ground := Ground.phase }, { on := 1, ground := Ground.phase }, { on := 2, ground := Ground.phase }, { on := 3, ground := Ground.phase }, { on := 4, ground := Ground.phase }, { on := 5, ground := Ground.phase }, { on := 6, ground := Ground.phase }, { on := 7, ground := Ground.phase }, { on := 8, ground := Ground.phase }, { on := 9, ground := Ground.phase }, { on := 10, ground := Ground.phase }], guard := none }]

def day5Vals (s p1 p2 p3 : ByteArray) (xy xo xd : Int) : List (Nat × Nat × Value) := [(0, 25, .string s), (1, 26, .string p1), (3, 28, .string s), (4, 29, .string p2), (6, 31, .string s), (7, 32, .string p3), (9, 4, .int .i64 xy), (10, 5, .int .i64 xo), (11, 6, .int .i64 xd)]
def day5C : List (Nat × Nat) := [(2, 27), (5, 30), (8, 33)]

set_option maxHeartbeats 4000000 in
set_option maxRecDepth 100000 in
theorem day5 {Q : Exit → Act → World → Prop} {a0 : Act} {wp : World} (s p1 p2 p3 : ByteArray) (xy xo xd : Int) (S : Nat → (Nat → Value) → World → Prop)
    (hsz : 33 < a0.tmps.size) (in0 : a0.eval (.tmp 0) = .string s)
    (hs11 : s.size = 11) (hq1 : s.extract 7 11 = p1) (hq2 : s.extract 3 6 = p2) (hq3 : s.extract 0 2 = p3)
    (c0 : ∀ R w, S 0 R w → Calls Tryd.prog 23 #[.string p1] w fun e w' => ∃ v, e = .returned v ∧ S 1 (setR R 0 v) w')
    (c1 : ∀ R w, S 1 R w → Calls Tryd.prog 25 #[.string p2] w fun e w' => ∃ v, e = .returned v ∧ S 2 (setR R 1 v) w')
    (c2 : ∀ R w, S 2 R w → Calls Tryd.prog 23 #[.string p3] w fun e w' => ∃ v, e = .returned v ∧ S 3 (setR R 2 v) w')
    (hv : ∀ p R w, S p R w → (0 < p → R 0 = .int .i64 xy) ∧ (1 < p → R 1 = .int .i64 xo) ∧ (2 < p → R 2 = .int .i64 xd))
    (hS : S 0 (resOf day5C fun t => a0.eval (.tmp t)) wp.drew)
    (fin : ∀ a w, Fr [25, 26, 27, 28, 29, 30, 31, 32, 33, 4, 5, 6] a0 a → a.eval (.tmp 4) = .int .i64 xy → a.eval (.tmp 5) = .int .i64 xo → a.eval (.tmp 6) = .int .i64 xd → S 3 (resOf day5C fun t => a.eval (.tmp t)) w → Q .normal a w) :
    (Code.region 5 opsDay5 true).wp Tryd.prog Q a0 wp := by
  refine region_inv (by kernel_rfl) [25, 26, 27, 28, 29, 30, 31, 32, 33, 4, 5, 6] (by kernel_rfl) (by kernel_rfl) (fun t ht => by simp at ht; omega) (GV (day5Vals s p1 p2 p3 xy xo xd) day5C S) (.start hS) ?_
    (fun L a w hf hall hG => fin a w hf (hG.val 6 9 4 _ rfl (hall 9 (by decide))) (hG.val 7 10 5 _ rfl (hall 10 (by decide))) (hG.val 8 11 6 _ rfl (hall 11 (by decide))) (hG.fin (fun c hc => by simp [day5C] at hc; rcases hc with rfl | rfl | rfl <;> exact hall _ (by decide))))
  clear hS fin
  intro ix oo ho L a w hfr hG hLi hdep hcl K hK
  have e0 : a.tmps[0]?.getD undef = .string s := by rw [← ev]; exact (hfr.same 0 (by decide)).trans in0
  clear in0
  match ix, ho with
  | 0, ho =>
    simp only [opsDay5, List.getElem?_toArray, List.getElem?_cons_zero, Option.some.injEq] at ho
    subst ho
    rw [if_pos (show Region.wanted _ _ = true from rfl)]
    have hfin := hK (.string s) w (hG.quiet 0 0 25 _ rfl (by kernel_rfl) (by kernel_rfl))
    have HK := Lib.hid hfin
    clear hG hcl hdep hfr hK hfin hLi 
    go_simp
    exact HK.out
  | 1, ho =>
    simp only [opsDay5, List.getElem?_toArray, List.getElem?_cons_succ, List.getElem?_cons_zero, Option.some.injEq] at ho
    subst ho
    have x25 : a.tmps[25]?.getD undef = .string s := by rw [← ev]; exact hG.val 0 0 25 _ rfl (hdep ⟨0, .data⟩ (by simp) rfl)
    rw [if_pos (show Region.wanted _ _ = true from rfl)]
    obtain ⟨ph, hSp, hdone⟩ := hG.any
    have hfin := hK (.string p1) w (hG.quiet 1 1 26 _ rfl (by kernel_rfl) (by kernel_rfl))
    have HK := Lib.hid hfin
    generalize (resOf day5C fun t => a.eval (.tmp t)) = R at *
    clear hq2 hq3 c0 c1 c2 hv
    clear hSp hdone
    clear hG hcl hdep hfr hK hfin hLi 
    go_simp
    exact HK.out
  | 2, ho =>
    simp only [opsDay5, List.getElem?_toArray, List.getElem?_cons_succ, List.getElem?_cons_zero, Option.some.injEq] at ho
    subst ho
    have x26 : a.tmps[26]?.getD undef = .string p1 := by rw [← ev]; exact hG.val 1 1 26 _ rfl (hdep ⟨1, .data⟩ (by simp) rfl)
    rw [if_pos (show Region.wanted _ _ = true from rfl)]
    have hSj := hG.at 0 (2, 27) rfl hLi (fun c h0 hc => absurd h0 (by decide))
    have hfin := fun v w' hs => hK v w' (hG.call 0 (2, 27) rfl hLi (fun c h0 hc => absurd h0 (by decide)) (by kernel_rfl) v w' hs)
    have HK := Lib.hid hfin
    generalize (resOf day5C fun t => a.eval (.tmp t)) = R at *
    clear hG hcl hdep hfr hK hfin hLi
    have hc := Lib.hid (c0 _ _ hSj)
    clear hSj hs11 hq1 hq2 hq3 c0 c1 c2 hv
    go_simp
    go_at_call 23
    refine hc.out.mono ?_
    rintro e w' ⟨v, rfl, hs⟩
    exact HK.out v w' hs
  | 3, ho =>
    simp only [opsDay5, List.getElem?_toArray, List.getElem?_cons_succ, List.getElem?_cons_zero, Option.some.injEq] at ho
    subst ho
    rw [if_pos (show Region.wanted _ _ = true from rfl)]
    have hfin := hK (.string s) w (hG.quiet 2 3 28 _ rfl (by kernel_rfl) (by kernel_rfl))
    have HK := Lib.hid hfin
    clear hG hcl hdep hfr hK hfin hLi 
    go_simp
    exact HK.out
  | 4, ho =>
    simp only [opsDay5, List.getElem?_toArray, List.getElem?_cons_succ, List.getElem?_cons_zero, Option.some.injEq] at ho
    subst ho
    have x28 : a.tmps[28]?.getD undef = .string s := by rw [← ev]; exact hG.val 2 3 28 _ rfl (hdep ⟨3, .data⟩ (by simp) rfl)
    rw [if_pos (show Region.wanted _ _ = true from rfl)]
    obtain ⟨ph, hSp, hdone⟩ := hG.any
    have hfin := hK (.string p2) w (hG.quiet 3 4 29 _ rfl (by kernel_rfl) (by kernel_rfl))
    have HK := Lib.hid hfin
    generalize (resOf day5C fun t => a.eval (.tmp t)) = R at *
    clear hq1 hq3 c0 c1 c2 hv
    clear hSp hdone
    clear hG hcl hdep hfr hK hfin hLi 
    go_simp
    exact HK.out
  | 5, ho =>
    simp only [opsDay5, List.getElem?_toArray, List.getElem?_cons_succ, List.getElem?_cons_zero, Option.some.injEq] at ho
    subst ho
    have x29 : a.tmps[29]?.getD undef = .string p2 := by rw [← ev]; exact hG.val 3 4 29 _ rfl (hdep ⟨4, .data⟩ (by simp) rfl)
    rw [if_pos (show Region.wanted _ _ = true from rfl)]
    have hSj := hG.at 1 (5, 30) rfl hLi (fun c h0 hc => by simp [day5C] at hc; subst hc; exact hdep ⟨2, .chain⟩ (by simp) rfl)
    have hfin := fun v w' hs => hK v w' (hG.call 1 (5, 30) rfl hLi (fun c h0 hc => by simp [day5C] at hc; subst hc; exact hdep ⟨2, .chain⟩ (by simp) rfl) (by kernel_rfl) v w' hs)
    have HK := Lib.hid hfin
    generalize (resOf day5C fun t => a.eval (.tmp t)) = R at *
    clear hG hcl hdep hfr hK hfin hLi
    have hc := Lib.hid (c1 _ _ hSj)
    clear hSj hs11 hq1 hq2 hq3 c0 c1 c2 hv
    go_simp
    go_at_call 25
    refine hc.out.mono ?_
    rintro e w' ⟨v, rfl, hs⟩
    exact HK.out v w' hs
  | 6, ho =>
    simp only [opsDay5, List.getElem?_toArray, List.getElem?_cons_succ, List.getElem?_cons_zero, Option.some.injEq] at ho
    subst ho
    rw [if_pos (show Region.wanted _ _ = true from rfl)]
    have hfin := hK (.string s) w (hG.quiet 4 6 31 _ rfl (by kernel_rfl) (by kernel_rfl))
    have HK := Lib.hid hfin
    clear hG hcl hdep hfr hK hfin hLi 
    go_simp
    exact HK.out
  | 7, ho =>
    simp only [opsDay5, List.getElem?_toArray, List.getElem?_cons_succ, List.getElem?_cons_zero, Option.some.injEq] at ho
    subst ho
    have x31 : a.tmps[31]?.getD undef = .string s := by rw [← ev]; exact hG.val 4 6 31 _ rfl (hdep ⟨6, .data⟩ (by simp) rfl)
    rw [if_pos (show Region.wanted _ _ = true from rfl)]
    obtain ⟨ph, hSp, hdone⟩ := hG.any
    have hfin := hK (.string p3) w (hG.quiet 5 7 32 _ rfl (by kernel_rfl) (by kernel_rfl))
    have HK := Lib.hid hfin
    generalize (resOf day5C fun t => a.eval (.tmp t)) = R at *
    clear hq1 hq2 c0 c1 c2 hv
    clear hSp hdone
    clear hG hcl hdep hfr hK hfin hLi 
    go_simp
    exact HK.out
  | 8, ho =>
    simp only [opsDay5, List.getElem?_toArray, List.getElem?_cons_succ, List.getElem?_cons_zero, Option.some.injEq] at ho
    subst ho
    have x32 : a.tmps[32]?.getD undef = .string p3 := by rw [← ev]; exact hG.val 5 7 32 _ rfl (hdep ⟨7, .data⟩ (by simp) rfl)
    rw [if_pos (show Region.wanted _ _ = true from rfl)]
    have hSj := hG.at 2 (8, 33) rfl hLi (fun c h0 hc => by simp [day5C] at hc; subst hc; exact hdep ⟨5, .chain⟩ (by simp) rfl)
    have hfin := fun v w' hs => hK v w' (hG.call 2 (8, 33) rfl hLi (fun c h0 hc => by simp [day5C] at hc; subst hc; exact hdep ⟨5, .chain⟩ (by simp) rfl) (by kernel_rfl) v w' hs)
    have HK := Lib.hid hfin
    generalize (resOf day5C fun t => a.eval (.tmp t)) = R at *
    clear hG hcl hdep hfr hK hfin hLi
    have hc := Lib.hid (c2 _ _ hSj)
    clear hSj hs11 hq1 hq2 hq3 c0 c1 c2 hv
    go_simp
    go_at_call 23
    refine hc.out.mono ?_
    rintro e w' ⟨v, rfl, hs⟩
    exact HK.out v w' hs
  | 9, ho =>
    simp only [opsDay5, List.getElem?_toArray, List.getElem?_cons_succ, List.getElem?_cons_zero, Option.some.injEq] at ho
    subst ho
    rw [if_pos (show Region.wanted _ _ = true from rfl)]
    obtain ⟨ph, hSp, hdone⟩ := hG.any
    have hd27 : 0 < ph := hdone 0 (2, 27) rfl (hdep ⟨2, .data⟩ (by simp) rfl)
    have r27 : a.tmps[27]?.getD undef = resOf day5C (fun t => a.eval (.tmp t)) 0 := by rw [← ev]; exact (resOf_at (C := day5C) (j := 0) rfl a).symm
    have hfin := hK (.int .i64 xy) w (hG.quiet 6 9 4 _ rfl (by kernel_rfl) (by kernel_rfl))
    have HK := Lib.hid hfin
    generalize (resOf day5C fun t => a.eval (.tmp t)) = R at *
    rw [(hv _ _ _ hSp).1 hd27] at r27
    clear hs11 hq1 hq2 hq3 hd27 c0 c1 c2 hv
    clear hSp hdone
    clear hG hcl hdep hfr hK hfin hLi 
    go_simp
    exact HK.out
  | 10, ho =>
    simp only [opsDay5, List.getElem?_toArray, List.getElem?_cons_succ, List.getElem?_cons_zero, Option.some.injEq] at ho
    subst ho
    rw [if_pos (show Region.wanted _ _ = true from rfl)]
    obtain ⟨ph, hSp, hdone⟩ := hG.any
    have hd30 : 1 < ph := hdone 1 (5, 30) rfl (hdep ⟨5, .data⟩ (by simp) rfl)
    have r30 : a.tmps[30]?.getD undef = resOf day5C (fun t => a.eval (.tmp t)) 1 := by rw [← ev]; exact (resOf_at (C := day5C) (j := 1) rfl a).symm
    have hfin := hK (.int .i64 xo) w (hG.quiet 7 10 5 _ rfl (by kernel_rfl) (by kernel_rfl))
    have HK := Lib.hid hfin
    generalize (resOf day5C fun t => a.eval (.tmp t)) = R at *
    rw [(hv _ _ _ hSp).2.1 hd30] at r30
    clear hs11 hq1 hq2 hq3 hd30 c0 c1 c2 hv
    clear hSp hdone
    clear hG hcl hdep hfr hK hfin hLi 
    go_simp
    exact HK.out
  | 11, ho =>
    simp only [opsDay5, List.getElem?_toArray, List.getElem?_cons_succ, List.getElem?_cons_zero, Option.some.injEq] at ho
    subst ho
    rw [if_pos (show Region.wanted _ _ = true from rfl)]
    obtain ⟨ph, hSp, hdone⟩ := hG.any
    have hd33 : 2 < ph := hdone 2 (8, 33) rfl (hdep ⟨8, .data⟩ (by simp) rfl)
    have r33 : a.tmps[33]?.getD undef = resOf day5C (fun t => a.eval (.tmp t)) 2 := by rw [← ev]; exact (resOf_at (C := day5C) (j := 2) rfl a).symm
    have hfin := hK (.int .i64 xd) w (hG.quiet 8 11 6 _ rfl (by kernel_rfl) (by kernel_rfl))
    have HK := Lib.hid hfin
    generalize (resOf day5C fun t => a.eval (.tmp t)) = R at *
    rw [(hv _ _ _ hSp).2.2 hd33] at r33
    clear hs11 hq1 hq2 hq3 hd33 c0 c1 c2 hv
    clear hSp hdone
    clear hG hcl hdep hfr hK hfin hLi 
    go_simp
    exact HK.out
  | n + 12, ho => exact absurd (Array.getElem?_eq_some_iff.1 ho).1 (by show ¬ n + 12 < 12; omega)
end Go.Proofs.YtgkibkophoikoaaDoor
