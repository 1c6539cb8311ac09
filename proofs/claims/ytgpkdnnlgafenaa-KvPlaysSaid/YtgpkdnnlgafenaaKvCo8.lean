/- The table's Commit: a pair is set, its value copied. -/
import Derived.Test.YtgpkdnnlgafenaaVals
import Derived.Test.YtgpkdnnlgafenaaKvArg
import Derived.WalkKit
import Derived.WalkSpells
import Derived.WalkLawsBesides
import Derived.Lib.Hide
import Derived.IntWalk
namespace Go.Proofs.Ytgpkdnnlgafenaa
open Go.RowKit
set_option linter.unusedVariables false
set_option linter.unusedSimpArgs false

def opsCo8 : Array Oper := #[
  { dst := some 22, op := Op.move (Operand.tmp 0), type := 23, pos := "kv.go:59", after := #[], guard := none },
  { dst := some 23, op := Op.fieldAddr 29 (Operand.tmp 6) 0, type := 0, pos := "kv.go:59", after := #[], guard := none },
  { dst := some 24, op := Op.load 9 (Operand.tmp 23), type := 9, pos := "kv.go:59", after := #[{ on := 1, ground := Ground.data }], guard := none },
  { dst := some 25, op := Op.fieldAddr 29 (Operand.tmp 6) 1, type := 0, pos := "kv.go:59", after := #[], guard := none },
  { dst := some 26, op := Op.load 27 (Operand.tmp 25), type := 27, pos := "kv.go:59", after := #[{ on := 3, ground := Ground.data }], guard := none },
  { dst := some 27, op := Op.call { callee := Callee.value (Operand.func 31), args := #[Operand.tmp 26], argTypes := #[27] }, type := 27, pos := "kv.go:59", after := #[{ on := 4, ground := Ground.data }], guard := none },
  { dst := some 28, op := Op.call { callee := Callee.value (Operand.func 30), args := #[Operand.tmp 22, Operand.tmp 24, Operand.tmp 27], argTypes := #[23, 9, 27] }, type := 0, pos := "kv.go:59", after := #[{ on := 0, ground := Ground.data }, { on := 2, ground := Ground.data }, { on := 5, ground := Ground.data }, { on := 5, ground := Ground.chain }], guard := none }]

def co8Vals (t b nv cv : Nat) (Av : Option Addr) (key : ByteArray) : List (Nat × Nat × Value) := [(0, 22, .pointer (some ⟨t, 0, none⟩)), (1, 23, .pointer (some ⟨b, 0, none⟩)), (2, 24, .string key), (3, 25, .pointer (some ⟨b, 1, none⟩)), (4, 26, .slice Av nv cv)]
def co8C : List (Nat × Nat) := [(5, 27), (6, 28)]

set_option maxHeartbeats 1600000 in
set_option maxRecDepth 100000 in
theorem co8 {Q : Exit → Act → World → Prop} {a0 : Act} {wp : World} (t b nv cv : Nat) (Av : Option Addr) (key : ByteArray) (S : Nat → (Nat → Value) → World → Prop)
    (hsz : 28 < a0.tmps.size) (in0 : a0.eval (.tmp 0) = .pointer (some ⟨t, 0, none⟩)) (in6 : a0.eval (.tmp 6) = .pointer (some ⟨b, 0, none⟩))
    (hb0 : ∀ p R w, S p R w → w.cell? ⟨b, 0, none⟩ = some (.string key) ∧ w.cell? ⟨b, 1, none⟩ = some (.slice Av nv cv))
    (hc1 : ∀ R w, S 0 R w → Calls Try.prog 31 #[.slice Av nv cv] w fun e w' => ∃ v, e = .returned v ∧ S 1 (setR R 0 v) w')
    (hc2 : ∀ R w, S 1 R w → Calls Try.prog 30 #[.pointer (some ⟨t, 0, none⟩), .string key, R 0] w fun e w' => ∃ v, e = .returned v ∧ S 2 (setR R 1 v) w')
    (hS : S 0 (resOf co8C fun t => a0.eval (.tmp t)) wp.drew)
    (fin : ∀ a w, Fr [22, 23, 24, 25, 26, 27, 28] a0 a → S 2 (resOf co8C fun t => a.eval (.tmp t)) w → Q .normal a w) :
    (Code.region 8 opsCo8 true).wp Try.prog Q a0 wp := by
  refine region_inv (by kernel_rfl) [22, 23, 24, 25, 26, 27, 28] (by kernel_rfl) (by kernel_rfl) (fun t ht => by simp at ht; omega) (GV (co8Vals t b nv cv Av key) co8C S) (.start hS) ?_
    (fun L a w hf hall hG => fin a w hf  (hG.fin (fun c hc => by simp [co8C] at hc; rcases hc with rfl | rfl <;> exact hall _ (by decide))))
  clear hS fin
  intro ix oo ho L a w hfr hG hLi hdep hcl K hK
  have e0 : a.tmps[0]?.getD undef = .pointer (some ⟨t, 0, none⟩) := by rw [← ev]; exact (hfr.same 0 (by decide)).trans in0
  have e6 : a.tmps[6]?.getD undef = .pointer (some ⟨b, 0, none⟩) := by rw [← ev]; exact (hfr.same 6 (by decide)).trans in6
  clear in0 in6
  match ix, ho with
  | 0, ho =>
    simp only [opsCo8, List.getElem?_toArray, List.getElem?_cons_zero, Option.some.injEq] at ho
    subst ho
    rw [if_pos (show Region.wanted _ _ = true from rfl)]
    have hfin := hK (.pointer (some ⟨t, 0, none⟩)) w (hG.quiet 0 0 22 _ rfl (by kernel_rfl) (by kernel_rfl))
    have HK := Lib.hid hfin
    clear hG hcl hdep hfr hK hfin hLi 
    go_simp
    exact HK.out
  | 1, ho =>
    simp only [opsCo8, List.getElem?_toArray, List.getElem?_cons_succ, List.getElem?_cons_zero, Option.some.injEq] at ho
    subst ho
    rw [if_pos (show Region.wanted _ _ = true from rfl)]
    have hfin := hK (.pointer (some ⟨b, 0, none⟩)) w (hG.quiet 1 1 23 _ rfl (by kernel_rfl) (by kernel_rfl))
    have HK := Lib.hid hfin
    clear hG hcl hdep hfr hK hfin hLi 
    go_simp
    exact HK.out
  | 2, ho =>
    simp only [opsCo8, List.getElem?_toArray, List.getElem?_cons_succ, List.getElem?_cons_zero, Option.some.injEq] at ho
    subst ho
    have x23 : a.tmps[23]?.getD undef = .pointer (some ⟨b, 0, none⟩) := by rw [← ev]; exact hG.val 1 1 23 _ rfl (hdep ⟨1, .data⟩ (by simp) rfl)
    rw [if_pos (show Region.wanted _ _ = true from rfl)]
    obtain ⟨ph, hSp, hdone⟩ := hG.any
    have hfin := hK (.string key) w (hG.quiet 2 2 24 _ rfl (by kernel_rfl) (by kernel_rfl))
    have HK := Lib.hid hfin
    generalize (resOf co8C fun t => a.eval (.tmp t)) = R at *
    obtain ⟨q1, q2⟩ := hb0 _ _ _ hSp
    clear hb0 hc1 hc2 q2
    clear hSp hdone
    clear hG hcl hdep hfr hK hfin hLi 
    go_simp
    exact HK.out
  | 3, ho =>
    simp only [opsCo8, List.getElem?_toArray, List.getElem?_cons_succ, List.getElem?_cons_zero, Option.some.injEq] at ho
    subst ho
    rw [if_pos (show Region.wanted _ _ = true from rfl)]
    have hfin := hK (.pointer (some ⟨b, 1, none⟩)) w (hG.quiet 3 3 25 _ rfl (by kernel_rfl) (by kernel_rfl))
    have HK := Lib.hid hfin
    clear hG hcl hdep hfr hK hfin hLi 
    go_simp
    exact HK.out
  | 4, ho =>
    simp only [opsCo8, List.getElem?_toArray, List.getElem?_cons_succ, List.getElem?_cons_zero, Option.some.injEq] at ho
    subst ho
    have x25 : a.tmps[25]?.getD undef = .pointer (some ⟨b, 1, none⟩) := by rw [← ev]; exact hG.val 3 3 25 _ rfl (hdep ⟨3, .data⟩ (by simp) rfl)
    rw [if_pos (show Region.wanted _ _ = true from rfl)]
    obtain ⟨ph, hSp, hdone⟩ := hG.any
    have hfin := hK (.slice Av nv cv) w (hG.quiet 4 4 26 _ rfl (by kernel_rfl) (by kernel_rfl))
    have HK := Lib.hid hfin
    generalize (resOf co8C fun t => a.eval (.tmp t)) = R at *
    obtain ⟨q1, q2⟩ := hb0 _ _ _ hSp
    clear hb0 hc1 hc2 q1
    clear hSp hdone
    clear hG hcl hdep hfr hK hfin hLi 
    go_simp
    exact HK.out
  | 5, ho =>
    simp only [opsCo8, List.getElem?_toArray, List.getElem?_cons_succ, List.getElem?_cons_zero, Option.some.injEq] at ho
    subst ho
    have x26 : a.tmps[26]?.getD undef = .slice Av nv cv := by rw [← ev]; exact hG.val 4 4 26 _ rfl (hdep ⟨4, .data⟩ (by simp) rfl)
    rw [if_pos (show Region.wanted _ _ = true from rfl)]
    have hSj := hG.at 0 (5, 27) rfl hLi (fun c h0 hc => absurd h0 (by decide))
    have hfin := fun v w' hs => hK v w' (hG.call 0 (5, 27) rfl hLi (fun c h0 hc => absurd h0 (by decide)) (by kernel_rfl) v w' hs)
    have HK := Lib.hid hfin
    generalize (resOf co8C fun t => a.eval (.tmp t)) = R at *
    clear hG hcl hdep hfr hK hfin hLi
    have hc := Lib.hid (hc1 _ _ hSj)
    clear hSj hb0 hc1 hc2
    go_simp
    go_at_call 31
    refine hc.out.mono ?_
    rintro e w' ⟨v, rfl, hs⟩
    exact HK.out v w' hs
  | 6, ho =>
    simp only [opsCo8, List.getElem?_toArray, List.getElem?_cons_succ, List.getElem?_cons_zero, Option.some.injEq] at ho
    subst ho
    have x22 : a.tmps[22]?.getD undef = .pointer (some ⟨t, 0, none⟩) := by rw [← ev]; exact hG.val 0 0 22 _ rfl (hdep ⟨0, .data⟩ (by simp) rfl)
    have x24 : a.tmps[24]?.getD undef = .string key := by rw [← ev]; exact hG.val 2 2 24 _ rfl (hdep ⟨2, .data⟩ (by simp) rfl)
    rw [if_pos (show Region.wanted _ _ = true from rfl)]
    have hSj := hG.at 1 (6, 28) rfl hLi (fun c h0 hc => by simp [co8C] at hc; subst hc; exact hdep ⟨5, .data⟩ (by simp) rfl)
    have r27 : a.tmps[27]?.getD undef = resOf co8C (fun t => a.eval (.tmp t)) 0 := by rw [← ev]; exact (resOf_at (C := co8C) (j := 0) rfl a).symm
    have hfin := fun v w' hs => hK v w' (hG.call 1 (6, 28) rfl hLi (fun c h0 hc => by simp [co8C] at hc; subst hc; exact hdep ⟨5, .data⟩ (by simp) rfl) (by kernel_rfl) v w' hs)
    have HK := Lib.hid hfin
    generalize (resOf co8C fun t => a.eval (.tmp t)) = R at *
    clear hG hcl hdep hfr hK hfin hLi
    have hc := Lib.hid (hc2 _ _ hSj)
    skip
    clear hSj hb0 hc1 hc2
    go_simp
    go_at_call 30
    refine hc.out.mono ?_
    rintro e w' ⟨v, rfl, hs⟩
    exact HK.out v w' hs
  | n + 7, ho => exact absurd (Array.getElem?_eq_some_iff.1 ho).1 (by show ¬ n + 7 < 7; omega)
end Go.Proofs.Ytgpkdnnlgafenaa
