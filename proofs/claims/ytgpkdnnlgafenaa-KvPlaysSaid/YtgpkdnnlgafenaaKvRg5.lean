/- The table's Range: a pair is added, its value copied. -/
import Derived.Test.YtgpkdnnlgafenaaFlags
import Derived.Test.YtgpkdnnlgafenaaKvArg
import Derived.Test.YtgpkdnnlgafenaaRegionIn
import Derived.WalkKit
import Derived.WalkSpells
import Derived.WalkLawsBesides
import Derived.Lib.Hide
import Derived.IntWalk
import Derived.Laws.Entries
namespace Go.Proofs.Ytgpkdnnlgafenaa
open Go.RowKit
set_option linter.unusedVariables false
set_option linter.unusedSimpArgs false

def opsRg5 : Array Oper := #[
  { dst := some 29, op := Op.load 37 (Operand.tmp 9), type := 37, pos := "kv.go:81", after := #[], guard := none },
  { dst := some 30, op := Op.fieldAddr 63 (Operand.tmp 10) 0, type := 0, pos := "kv.go:81", after := #[], guard := none },
  { dst := some 31, op := Op.load 9 (Operand.tmp 30), type := 9, pos := "kv.go:81", after := #[{ on := 1, ground := Ground.data }], guard := none },
  { dst := some 32, op := Op.fieldAddr 63 (Operand.tmp 10) 1, type := 0, pos := "kv.go:81", after := #[], guard := none },
  { dst := some 33, op := Op.load 27 (Operand.tmp 32), type := 27, pos := "kv.go:81", after := #[{ on := 3, ground := Ground.data }], guard := none },
  { dst := some 34, op := Op.call { callee := Callee.value (Operand.func 31), args := #[Operand.tmp 33], argTypes := #[27] }, type := 27, pos := "kv.go:81", after := #[{ on := 4, ground := Ground.data }], guard := none },
  { dst := some 35, op := Op.build 63 #[(0, Operand.tmp 31), (1, Operand.tmp 34)], type := 63, pos := "kv.go:81", after := #[{ on := 2, ground := Ground.data }, { on := 5, ground := Ground.data }], guard := none },
  { dst := some 36, op := Op.buildSlice 37 1 #[(0, Operand.tmp 35)], type := 37, pos := "kv.go:81", after := #[{ on := 6, ground := Ground.data }], guard := none },
  { dst := some 37, op := Op.call { callee := Callee.builtin Builtin.append, args := #[Operand.tmp 29, Operand.tmp 36], argTypes := #[37, 37] }, type := 37, pos := "kv.go:81", after := #[{ on := 0, ground := Ground.data }, { on := 7, ground := Ground.data }, { on := 5, ground := Ground.chain }], guard := none },
  { dst := none, op := Op.store 37 (Operand.tmp 9) (Operand.tmp 37), type := 0, pos := "kv.go:81", after := #[{ on := 8, ground := Ground.data }, { on := 8, ground := Ground.chain }, { on := 0, ground := Ground.phase }, { on := 1, ground := Ground.phase }, { on := 2, ground := Ground.phase }, { on := 3, ground := Ground.phase }, { on := 4, ground := Ground.phase }, { on := 5, ground := Ground.phase }, { on := 6, ground := Ground.phase }, { on := 7, ground := Ground.phase }, { on := 8, ground := Ground.phase }], guard := none }]

def rg5Vals (lb pb n0 c0 nv cv : Nat) (A0 Av : Option Addr) (key : ByteArray) : List (Nat × Nat × Value) := [(0, 29, .slice A0 n0 c0), (1, 30, .pointer (some ⟨pb, 0, none⟩)), (2, 31, .string key), (3, 32, .pointer (some ⟨pb, 1, none⟩)), (4, 33, .slice Av nv cv)]
def rg5C : List (Nat × Nat) := [(5, 34), (6, 35), (7, 36), (8, 37), (9, 1000009)]

set_option maxHeartbeats 4000000 in
set_option maxRecDepth 100000 in
theorem rg5 {lr nr : Nat} {Q : Exit → Act → World → Prop} {a0 : Act} {wp : World} (lb pb n0 c0 nv cv : Nat) (A0 Av : Option Addr) (key : ByteArray) (S : (Nat → Bool) → (Nat → Value) → World → Prop)
    (hsz : 37 < a0.tmps.size) (in9 : a0.eval (.tmp 9) = .pointer (some ⟨lb, 0, none⟩)) (in10 : a0.eval (.tmp 10) = .pointer (some ⟨pb, 0, none⟩))
    (hl0 : ∀ f R w, S f R w → f 4 = false → w.cell? ⟨lb, 0, none⟩ = some (.slice A0 n0 c0)) (hp0 : ∀ f R w, S f R w → w.cell? ⟨pb, 0, none⟩ = some (.string key) ∧ w.cell? ⟨pb, 1, none⟩ = some (.slice Av nv cv))
    (hc0 : ∀ f R w, S f R w → f 0 = false → f 1 = false → f 2 = false → f 3 = false → f 4 = false → Calls Try.prog 31 #[.slice Av nv cv] w fun e w' => ∃ v, e = .returned v ∧ S (setF f 0) (setR R 0 v) w')
    (hb0 : ∀ f R w, S f R w → f 0 = true → f 1 = false → f 2 = false → f 3 = false → f 4 = false → ∃ A n c, R 0 = .slice A n c ∧ S (setF f 1) (setR R 1 (.agg #[.string key, .slice A n c])) w)
    (hb1 : ∀ f R w, S f R w → f 1 = true → f 2 = false → f 3 = false → f 4 = false → ∃ A n c, R 1 = .agg #[.string key, .slice A n c] ∧ S (setF f 2) (setR R 2 (.slice (some ⟨w.heap.size, 0, none⟩) 1 1)) (w.alloc (.cells #[.string key, .slice A n c] 63)))
    (ha0 : ∀ f R w, S f R w → f 2 = true → f 3 = false → f 4 = false → ∃ v w', (Builtin.append_ #[37, 37] 37 #[.slice A0 n0 c0, R 2]).run Try.prog w = .ok v w' ∧ S (setF f 3) (setR R 3 v) w')
    (hs0 : ∀ f R w, S f R w → f 3 = true → f 4 = false → ∃ A n c, R 3 = .slice A n c ∧ w.frozen? ⟨lb, 0, none⟩ = false ∧ S (setF f 4) R (w.setCell ⟨lb, 0, none⟩ (.slice A n c)))
    (hS : S (fun _ => false) (resOf rg5C fun t => a0.eval (.tmp t)) wp.drew)
    (fin : ∀ a w f, Fr [29, 30, 31, 32, 33, 34, 35, 36, 37] a0 a → (∀ j, j < 5 → f j = true) → S f (resOf rg5C fun t => a.eval (.tmp t)) w → Q .normal a w) :
    (Code.region 5 opsRg5 true).wpIn (Fence.wide.inRound lr) nr Try.prog Q a0 wp := by
  refine region_in (by kernel_rfl) (by kernel_rfl) [29, 30, 31, 32, 33, 34, 35, 36, 37] (by kernel_rfl) (by kernel_rfl) (fun t ht => by simp at ht; omega) (GF (rg5Vals lb pb n0 c0 nv cv A0 Av key) rg5C S) (.start hS) ?_
    (fun L a w hf hall hG => fin a w (flagsOf rg5C L) hf  (fun j hj => by
      match j, hj with
      | 0, _ => exact (flagsOf_at (C := rg5C) (j := 0) rfl L).trans (hall 5 (by decide))
      | 1, _ => exact (flagsOf_at (C := rg5C) (j := 1) rfl L).trans (hall 6 (by decide))
      | 2, _ => exact (flagsOf_at (C := rg5C) (j := 2) rfl L).trans (hall 7 (by decide))
      | 3, _ => exact (flagsOf_at (C := rg5C) (j := 3) rfl L).trans (hall 8 (by decide))
      | 4, _ => exact (flagsOf_at (C := rg5C) (j := 4) rfl L).trans (hall 9 (by decide))
      | n + 5, h => exact absurd h (by omega)) hG.1)
  clear hS fin
  intro ix oo ho L a w hfr hG hLi hdep hcl K hK
  have e9 : a.tmps[9]?.getD undef = .pointer (some ⟨lb, 0, none⟩) := by rw [← ev]; exact (hfr.same 9 (by decide)).trans in9
  have e10 : a.tmps[10]?.getD undef = .pointer (some ⟨pb, 0, none⟩) := by rw [← ev]; exact (hfr.same 10 (by decide)).trans in10
  clear in9 in10
  match ix, ho with
  | 0, ho =>
    simp only [opsRg5, List.getElem?_toArray, List.getElem?_cons_zero, Option.some.injEq] at ho
    subst ho
    rw [if_pos (show Region.wanted _ _ = true from rfl)]
    have hSp := hG.1
    have hf3 : flagsOf rg5C L 3 = false := (flagsOf_at (C := rg5C) (j := 3) rfl L).trans (by
      cases hl : L 8 with
      | false => rfl
      | true => exact absurd (hcl 8 _ rfl (hl) ⟨0, .data⟩ (by simp [opsRg5]) rfl) (by rw [hLi]; decide))
    have hf4 : flagsOf rg5C L 4 = false := (flagsOf_at (C := rg5C) (j := 4) rfl L).trans (by
      cases hl : L 9 with
      | false => rfl
      | true => exact absurd (hcl 9 _ rfl (hl) ⟨0, .phase⟩ (by simp [opsRg5]) rfl) (by rw [hLi]; decide))
    have hfin := hK (.slice A0 n0 c0) w (hG.quiet 0 0 29 _ rfl (by kernel_rfl) (by kernel_rfl))
    have HK := Lib.hid hfin
    generalize (resOf rg5C fun t => a.eval (.tmp t)) = R at *
    generalize flagsOf rg5C L = f at *
    have q1 := hl0 _ _ _ hSp hf4
    clear hl0 hp0 hc0 hb0 hb1 ha0 hs0
    clear hSp
    clear hG hcl hdep hfr hK hfin hLi 
    go_simp
    exact HK.out
  | 1, ho =>
    simp only [opsRg5, List.getElem?_toArray, List.getElem?_cons_succ, List.getElem?_cons_zero, Option.some.injEq] at ho
    subst ho
    rw [if_pos (show Region.wanted _ _ = true from rfl)]
    have hfin := hK (.pointer (some ⟨pb, 0, none⟩)) w (hG.quiet 1 1 30 _ rfl (by kernel_rfl) (by kernel_rfl))
    have HK := Lib.hid hfin
    clear hG hcl hdep hfr hK hfin hLi 
    go_simp
    exact HK.out
  | 2, ho =>
    simp only [opsRg5, List.getElem?_toArray, List.getElem?_cons_succ, List.getElem?_cons_zero, Option.some.injEq] at ho
    subst ho
    have x30 : a.tmps[30]?.getD undef = .pointer (some ⟨pb, 0, none⟩) := by rw [← ev]; exact hG.val 1 1 30 _ rfl (hdep ⟨1, .data⟩ (by simp) rfl)
    rw [if_pos (show Region.wanted _ _ = true from rfl)]
    have hSp := hG.1
    have hf1 : flagsOf rg5C L 1 = false := (flagsOf_at (C := rg5C) (j := 1) rfl L).trans (by
      cases hl : L 6 with
      | false => rfl
      | true => exact absurd (hcl 6 _ rfl (hl) ⟨2, .data⟩ (by simp [opsRg5]) rfl) (by rw [hLi]; decide))
    have hf2 : flagsOf rg5C L 2 = false := (flagsOf_at (C := rg5C) (j := 2) rfl L).trans (by
      cases hl : L 7 with
      | false => rfl
      | true => exact absurd (hcl 6 _ rfl (hcl 7 _ rfl (hl) ⟨6, .data⟩ (by simp [opsRg5]) rfl) ⟨2, .data⟩ (by simp [opsRg5]) rfl) (by rw [hLi]; decide))
    have hf3 : flagsOf rg5C L 3 = false := (flagsOf_at (C := rg5C) (j := 3) rfl L).trans (by
      cases hl : L 8 with
      | false => rfl
      | true => exact absurd (hcl 6 _ rfl (hcl 7 _ rfl (hcl 8 _ rfl (hl) ⟨7, .data⟩ (by simp [opsRg5]) rfl) ⟨6, .data⟩ (by simp [opsRg5]) rfl) ⟨2, .data⟩ (by simp [opsRg5]) rfl) (by rw [hLi]; decide))
    have hf4 : flagsOf rg5C L 4 = false := (flagsOf_at (C := rg5C) (j := 4) rfl L).trans (by
      cases hl : L 9 with
      | false => rfl
      | true => exact absurd (hcl 9 _ rfl (hl) ⟨2, .phase⟩ (by simp [opsRg5]) rfl) (by rw [hLi]; decide))
    have hfin := hK (.string key) w (hG.quiet 2 2 31 _ rfl (by kernel_rfl) (by kernel_rfl))
    have HK := Lib.hid hfin
    generalize (resOf rg5C fun t => a.eval (.tmp t)) = R at *
    generalize flagsOf rg5C L = f at *
    obtain ⟨q1, q2⟩ := hp0 _ _ _ hSp
    clear hl0 hp0 hc0 hb0 hb1 ha0 hs0 q2
    clear hSp
    clear hG hcl hdep hfr hK hfin hLi 
    go_simp
    exact HK.out
  | 3, ho =>
    simp only [opsRg5, List.getElem?_toArray, List.getElem?_cons_succ, List.getElem?_cons_zero, Option.some.injEq] at ho
    subst ho
    rw [if_pos (show Region.wanted _ _ = true from rfl)]
    have hfin := hK (.pointer (some ⟨pb, 1, none⟩)) w (hG.quiet 3 3 32 _ rfl (by kernel_rfl) (by kernel_rfl))
    have HK := Lib.hid hfin
    clear hG hcl hdep hfr hK hfin hLi 
    go_simp
    exact HK.out
  | 4, ho =>
    simp only [opsRg5, List.getElem?_toArray, List.getElem?_cons_succ, List.getElem?_cons_zero, Option.some.injEq] at ho
    subst ho
    have x32 : a.tmps[32]?.getD undef = .pointer (some ⟨pb, 1, none⟩) := by rw [← ev]; exact hG.val 3 3 32 _ rfl (hdep ⟨3, .data⟩ (by simp) rfl)
    rw [if_pos (show Region.wanted _ _ = true from rfl)]
    have hSp := hG.1
    have hf0 : flagsOf rg5C L 0 = false := (flagsOf_at (C := rg5C) (j := 0) rfl L).trans (by
      cases hl : L 5 with
      | false => rfl
      | true => exact absurd (hcl 5 _ rfl (hl) ⟨4, .data⟩ (by simp [opsRg5]) rfl) (by rw [hLi]; decide))
    have hf1 : flagsOf rg5C L 1 = false := (flagsOf_at (C := rg5C) (j := 1) rfl L).trans (by
      cases hl : L 6 with
      | false => rfl
      | true => exact absurd (hcl 5 _ rfl (hcl 6 _ rfl (hl) ⟨5, .data⟩ (by simp [opsRg5]) rfl) ⟨4, .data⟩ (by simp [opsRg5]) rfl) (by rw [hLi]; decide))
    have hf2 : flagsOf rg5C L 2 = false := (flagsOf_at (C := rg5C) (j := 2) rfl L).trans (by
      cases hl : L 7 with
      | false => rfl
      | true => exact absurd (hcl 5 _ rfl (hcl 6 _ rfl (hcl 7 _ rfl (hl) ⟨6, .data⟩ (by simp [opsRg5]) rfl) ⟨5, .data⟩ (by simp [opsRg5]) rfl) ⟨4, .data⟩ (by simp [opsRg5]) rfl) (by rw [hLi]; decide))
    have hf3 : flagsOf rg5C L 3 = false := (flagsOf_at (C := rg5C) (j := 3) rfl L).trans (by
      cases hl : L 8 with
      | false => rfl
      | true => exact absurd (hcl 5 _ rfl (hcl 8 _ rfl (hl) ⟨5, .chain⟩ (by simp [opsRg5]) rfl) ⟨4, .data⟩ (by simp [opsRg5]) rfl) (by rw [hLi]; decide))
    have hf4 : flagsOf rg5C L 4 = false := (flagsOf_at (C := rg5C) (j := 4) rfl L).trans (by
      cases hl : L 9 with
      | false => rfl
      | true => exact absurd (hcl 9 _ rfl (hl) ⟨4, .phase⟩ (by simp [opsRg5]) rfl) (by rw [hLi]; decide))
    have hfin := hK (.slice Av nv cv) w (hG.quiet 4 4 33 _ rfl (by kernel_rfl) (by kernel_rfl))
    have HK := Lib.hid hfin
    generalize (resOf rg5C fun t => a.eval (.tmp t)) = R at *
    generalize flagsOf rg5C L = f at *
    obtain ⟨q1, q2⟩ := hp0 _ _ _ hSp
    clear hl0 hp0 hc0 hb0 hb1 ha0 hs0 q1
    clear hSp
    clear hG hcl hdep hfr hK hfin hLi 
    go_simp
    exact HK.out
  | 5, ho =>
    simp only [opsRg5, List.getElem?_toArray, List.getElem?_cons_succ, List.getElem?_cons_zero, Option.some.injEq] at ho
    subst ho
    have x33 : a.tmps[33]?.getD undef = .slice Av nv cv := by rw [← ev]; exact hG.val 4 4 33 _ rfl (hdep ⟨4, .data⟩ (by simp) rfl)
    rw [if_pos (show Region.wanted _ _ = true from rfl)]
    have hSj := hG.1
    have hf0 : flagsOf rg5C L 0 = false := (flagsOf_at (C := rg5C) (j := 0) rfl L).trans hLi
    have hf1 : flagsOf rg5C L 1 = false := (flagsOf_at (C := rg5C) (j := 1) rfl L).trans (by
      cases hl : L 6 with
      | false => rfl
      | true => exact absurd (hcl 6 _ rfl (hl) ⟨5, .data⟩ (by simp [opsRg5]) rfl) (by rw [hLi]; decide))
    have hf2 : flagsOf rg5C L 2 = false := (flagsOf_at (C := rg5C) (j := 2) rfl L).trans (by
      cases hl : L 7 with
      | false => rfl
      | true => exact absurd (hcl 6 _ rfl (hcl 7 _ rfl (hl) ⟨6, .data⟩ (by simp [opsRg5]) rfl) ⟨5, .data⟩ (by simp [opsRg5]) rfl) (by rw [hLi]; decide))
    have hf3 : flagsOf rg5C L 3 = false := (flagsOf_at (C := rg5C) (j := 3) rfl L).trans (by
      cases hl : L 8 with
      | false => rfl
      | true => exact absurd (hcl 8 _ rfl (hl) ⟨5, .chain⟩ (by simp [opsRg5]) rfl) (by rw [hLi]; decide))
    have hf4 : flagsOf rg5C L 4 = false := (flagsOf_at (C := rg5C) (j := 4) rfl L).trans (by
      cases hl : L 9 with
      | false => rfl
      | true => exact absurd (hcl 9 _ rfl (hl) ⟨5, .phase⟩ (by simp [opsRg5]) rfl) (by rw [hLi]; decide))
    have hfin := fun v w' hs => hK v w' (hG.call 0 (5, 34) rfl (by kernel_rfl) v w' hs)
    have HK := Lib.hid hfin
    generalize (resOf rg5C fun t => a.eval (.tmp t)) = R at *
    generalize flagsOf rg5C L = f at *
    clear hG hcl hdep hfr hK hfin hLi
    have hc := Lib.hid (hc0 _ _ _ hSj hf0 hf1 hf2 hf3 hf4)
    clear hSj hl0 hp0 hc0 hb0 hb1 ha0 hs0
    go_simp
    go_at_call 31
    refine hc.out.mono ?_
    rintro e w' ⟨v, rfl, hs⟩
    exact HK.out v w' hs
  | 6, ho =>
    simp only [opsRg5, List.getElem?_toArray, List.getElem?_cons_succ, List.getElem?_cons_zero, Option.some.injEq] at ho
    subst ho
    have x31 : a.tmps[31]?.getD undef = .string key := by rw [← ev]; exact hG.val 2 2 31 _ rfl (hdep ⟨2, .data⟩ (by simp) rfl)
    rw [if_pos (show Region.wanted _ _ = true from rfl)]
    have hSj := hG.1
    have hf0 : flagsOf rg5C L 0 = true := (flagsOf_at (C := rg5C) (j := 0) rfl L).trans (hdep ⟨5, .data⟩ (by simp) rfl)
    have hf1 : flagsOf rg5C L 1 = false := (flagsOf_at (C := rg5C) (j := 1) rfl L).trans hLi
    have hf2 : flagsOf rg5C L 2 = false := (flagsOf_at (C := rg5C) (j := 2) rfl L).trans (by
      cases hl : L 7 with
      | false => rfl
      | true => exact absurd (hcl 7 _ rfl (hl) ⟨6, .data⟩ (by simp [opsRg5]) rfl) (by rw [hLi]; decide))
    have hf3 : flagsOf rg5C L 3 = false := (flagsOf_at (C := rg5C) (j := 3) rfl L).trans (by
      cases hl : L 8 with
      | false => rfl
      | true => exact absurd (hcl 7 _ rfl (hcl 8 _ rfl (hl) ⟨7, .data⟩ (by simp [opsRg5]) rfl) ⟨6, .data⟩ (by simp [opsRg5]) rfl) (by rw [hLi]; decide))
    have hf4 : flagsOf rg5C L 4 = false := (flagsOf_at (C := rg5C) (j := 4) rfl L).trans (by
      cases hl : L 9 with
      | false => rfl
      | true => exact absurd (hcl 9 _ rfl (hl) ⟨6, .phase⟩ (by simp [opsRg5]) rfl) (by rw [hLi]; decide))
    have r34 : a.tmps[34]?.getD undef = resOf rg5C (fun t => a.eval (.tmp t)) 0 := by rw [← ev]; exact (resOf_at (C := rg5C) (j := 0) rfl a).symm
    have hfin := fun v w' hs => hK v w' (hG.call 1 (6, 35) rfl (by kernel_rfl) v w' hs)
    have HK := Lib.hid hfin
    generalize (resOf rg5C fun t => a.eval (.tmp t)) = R at *
    generalize flagsOf rg5C L = f at *
    clear hG hcl hdep hfr hK hfin hLi
    obtain ⟨A, n, c, q1, hs⟩ := hb0 _ _ _ hSj hf0 hf1 hf2 hf3 hf4
    rw [q1] at r34
    have hk := HK.out _ _ hs
    have HK2 := Lib.hid hk
    clear hs hk HK hSj q1 hl0 hp0 hc0 hb0 hb1 ha0 hs0
    go_simp
    exact HK2.out
  | 7, ho =>
    simp only [opsRg5, List.getElem?_toArray, List.getElem?_cons_succ, List.getElem?_cons_zero, Option.some.injEq] at ho
    subst ho
    rw [if_pos (show Region.wanted _ _ = true from rfl)]
    have hSj := hG.1
    have hf0 : flagsOf rg5C L 0 = true := (flagsOf_at (C := rg5C) (j := 0) rfl L).trans (hcl 6 _ rfl (hdep ⟨6, .data⟩ (by simp) rfl) ⟨5, .data⟩ (by simp [opsRg5]) rfl)
    have hf1 : flagsOf rg5C L 1 = true := (flagsOf_at (C := rg5C) (j := 1) rfl L).trans (hdep ⟨6, .data⟩ (by simp) rfl)
    have hf2 : flagsOf rg5C L 2 = false := (flagsOf_at (C := rg5C) (j := 2) rfl L).trans hLi
    have hf3 : flagsOf rg5C L 3 = false := (flagsOf_at (C := rg5C) (j := 3) rfl L).trans (by
      cases hl : L 8 with
      | false => rfl
      | true => exact absurd (hcl 8 _ rfl (hl) ⟨7, .data⟩ (by simp [opsRg5]) rfl) (by rw [hLi]; decide))
    have hf4 : flagsOf rg5C L 4 = false := (flagsOf_at (C := rg5C) (j := 4) rfl L).trans (by
      cases hl : L 9 with
      | false => rfl
      | true => exact absurd (hcl 9 _ rfl (hl) ⟨7, .phase⟩ (by simp [opsRg5]) rfl) (by rw [hLi]; decide))
    have r35 : a.tmps[35]?.getD undef = resOf rg5C (fun t => a.eval (.tmp t)) 1 := by rw [← ev]; exact (resOf_at (C := rg5C) (j := 1) rfl a).symm
    have hfin := fun v w' hs => hK v w' (hG.call 2 (7, 36) rfl (by kernel_rfl) v w' hs)
    have HK := Lib.hid hfin
    generalize (resOf rg5C fun t => a.eval (.tmp t)) = R at *
    generalize flagsOf rg5C L = f at *
    clear hG hcl hdep hfr hK hfin hLi
    obtain ⟨A, n, c, q1, hs⟩ := hb1 _ _ _ hSj hf1 hf2 hf3 hf4
    rw [q1] at r35
    have hk := HK.out _ _ hs
    have HK2 := Lib.hid hk
    clear hs hk HK hSj q1 hl0 hp0 hc0 hb0 hb1 ha0 hs0
    go_simp
    exact HK2.out
  | 8, ho =>
    simp only [opsRg5, List.getElem?_toArray, List.getElem?_cons_succ, List.getElem?_cons_zero, Option.some.injEq] at ho
    subst ho
    have x29 : a.tmps[29]?.getD undef = .slice A0 n0 c0 := by rw [← ev]; exact hG.val 0 0 29 _ rfl (hdep ⟨0, .data⟩ (by simp) rfl)
    rw [if_pos (show Region.wanted _ _ = true from rfl)]
    have hSj := hG.1
    have hf0 : flagsOf rg5C L 0 = true := (flagsOf_at (C := rg5C) (j := 0) rfl L).trans (hdep ⟨5, .chain⟩ (by simp) rfl)
    have hf1 : flagsOf rg5C L 1 = true := (flagsOf_at (C := rg5C) (j := 1) rfl L).trans (hcl 7 _ rfl (hdep ⟨7, .data⟩ (by simp) rfl) ⟨6, .data⟩ (by simp [opsRg5]) rfl)
    have hf2 : flagsOf rg5C L 2 = true := (flagsOf_at (C := rg5C) (j := 2) rfl L).trans (hdep ⟨7, .data⟩ (by simp) rfl)
    have hf3 : flagsOf rg5C L 3 = false := (flagsOf_at (C := rg5C) (j := 3) rfl L).trans hLi
    have hf4 : flagsOf rg5C L 4 = false := (flagsOf_at (C := rg5C) (j := 4) rfl L).trans (by
      cases hl : L 9 with
      | false => rfl
      | true => exact absurd (hcl 9 _ rfl (hl) ⟨8, .data⟩ (by simp [opsRg5]) rfl) (by rw [hLi]; decide))
    have r36 : a.tmps[36]?.getD undef = resOf rg5C (fun t => a.eval (.tmp t)) 2 := by rw [← ev]; exact (resOf_at (C := rg5C) (j := 2) rfl a).symm
    have hfin := fun v w' hs => hK v w' (hG.call 3 (8, 37) rfl (by kernel_rfl) v w' hs)
    have HK := Lib.hid hfin
    generalize (resOf rg5C fun t => a.eval (.tmp t)) = R at *
    generalize flagsOf rg5C L = f at *
    clear hG hcl hdep hfr hK hfin hLi
    obtain ⟨v, w', hrun, hs⟩ := ha0 _ _ _ hSj hf2 hf3 hf4
    refine oper_append_run (.tmp 29) (.tmp 36) 37 rfl w _ _ (by rw [ev]; exact x29) (by rw [ev]; exact r36) v w' hrun (HK.out v w' hs)
  | 9, ho =>
    simp only [opsRg5, List.getElem?_toArray, List.getElem?_cons_succ, List.getElem?_cons_zero, Option.some.injEq] at ho
    subst ho
    rw [if_pos (show Region.wanted _ _ = true from rfl)]
    have hSj := hG.1
    have hf0 : flagsOf rg5C L 0 = true := (flagsOf_at (C := rg5C) (j := 0) rfl L).trans (hdep ⟨5, .phase⟩ (by simp) rfl)
    have hf1 : flagsOf rg5C L 1 = true := (flagsOf_at (C := rg5C) (j := 1) rfl L).trans (hdep ⟨6, .phase⟩ (by simp) rfl)
    have hf2 : flagsOf rg5C L 2 = true := (flagsOf_at (C := rg5C) (j := 2) rfl L).trans (hdep ⟨7, .phase⟩ (by simp) rfl)
    have hf3 : flagsOf rg5C L 3 = true := (flagsOf_at (C := rg5C) (j := 3) rfl L).trans (hdep ⟨8, .data⟩ (by simp) rfl)
    have hf4 : flagsOf rg5C L 4 = false := (flagsOf_at (C := rg5C) (j := 4) rfl L).trans hLi
    have r37 : a.tmps[37]?.getD undef = resOf rg5C (fun t => a.eval (.tmp t)) 3 := by rw [← ev]; exact (resOf_at (C := rg5C) (j := 3) rfl a).symm
    have hfin := fun w' hs => hK undef w' (hG.store 4 (9, 1000009) rfl (by kernel_rfl) undef w' hs)
    have HK := Lib.hid hfin
    generalize (resOf rg5C fun t => a.eval (.tmp t)) = R at *
    generalize flagsOf rg5C L = f at *
    clear hG hcl hdep hfr hK hfin hLi
    obtain ⟨A, n, c, q1, q2, hs⟩ := hs0 _ _ _ hSj hf3 hf4
    rw [q1] at r37
    have q3 := hl0 _ _ _ hSj hf4
    have hk := HK.out _ hs
    have HK2 := Lib.hid hk
    clear hs hk HK hSj q1 hl0 hp0 hc0 hb0 hb1 ha0 hs0
    go_simp
    exact HK2.out
  | n + 10, ho => exact absurd (Array.getElem?_eq_some_iff.1 ho).1 (by show ¬ n + 10 < 10; omega)
end Go.Proofs.Ytgpkdnnlgafenaa
