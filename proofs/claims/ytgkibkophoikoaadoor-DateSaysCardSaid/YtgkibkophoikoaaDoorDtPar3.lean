/- date's Parse: what stands in the places of the numbers. -/
import Derived.Test.YtgkibkophoikoaaDoorFlags
import Derived.Test.YtgkibkophoikoaaDoorAppend
import Derived.WalkKit
import Derived.WalkSpells
import Derived.WalkLawsBesides
import Derived.Lib.Hide
import Derived.Laws.Strings3
namespace Go.Proofs.YtgkibkophoikoaaDoor
open Go.RowKit
set_option linter.unusedVariables false
set_option linter.unusedSimpArgs false

def opsPar3 : Array Oper := #[
  { dst := some 9, op := Op.move (Operand.tmp 0), type := 9, pos := "date.go:102", after := #[], guard := none },
  { dst := some 10, op := Op.slice 9 (Operand.tmp 9) none (some (Operand.const (Value.int IntKind.i64 2))) none, type := 9, pos := "date.go:102", after := #[{ on := 0, ground := Ground.data }], guard := none },
  { dst := some 11, op := Op.call { callee := Callee.value (Operand.func 24), args := #[Operand.tmp 10, Operand.const (Value.string { data := #[32] })], argTypes := #[9, 9] }, type := 9, pos := "date.go:103", after := #[{ on := 1, ground := Ground.data }], guard := none },
  { dst := some 12, op := Op.call { callee := Callee.value (Operand.func 23), args := #[Operand.tmp 11], argTypes := #[9] }, type := 3, pos := "date.go:103", after := #[{ on := 2, ground := Ground.data }, { on := 2, ground := Ground.chain }], guard := none },
  { dst := some 13, op := Op.move (Operand.tmp 0), type := 9, pos := "date.go:102", after := #[], guard := none },
  { dst := some 14, op := Op.slice 9 (Operand.tmp 13) (some (Operand.const (Value.int IntKind.i64 3))) (some (Operand.const (Value.int IntKind.i64 6))) none, type := 9, pos := "date.go:102", after := #[{ on := 4, ground := Ground.data }], guard := none },
  { dst := some 15, op := Op.call { callee := Callee.value (Operand.func 25), args := #[Operand.tmp 14], argTypes := #[9] }, type := 3, pos := "date.go:104", after := #[{ on := 5, ground := Ground.data }, { on := 3, ground := Ground.chain }], guard := none },
  { dst := some 16, op := Op.move (Operand.tmp 0), type := 9, pos := "date.go:102", after := #[], guard := none },
  { dst := some 17, op := Op.slice 9 (Operand.tmp 16) (some (Operand.const (Value.int IntKind.i64 7))) (some (Operand.const (Value.int IntKind.i64 11))) none, type := 9, pos := "date.go:102", after := #[{ on := 7, ground := Ground.data }], guard := none },
  { dst := some 18, op := Op.call { callee := Callee.value (Operand.func 23), args := #[Operand.tmp 17], argTypes := #[9] }, type := 3, pos := "date.go:105", after := #[{ on := 8, ground := Ground.data }, { on := 6, ground := Ground.chain }], guard := none },
  { dst := some 19, op := Op.move (Operand.tmp 0), type := 9, pos := "date.go:102", after := #[], guard := none },
  { dst := some 20, op := Op.slice 9 (Operand.tmp 19) (some (Operand.const (Value.int IntKind.i64 12))) (some (Operand.const (Value.int IntKind.i64 14))) none, type := 9, pos := "date.go:102", after := #[{ on := 10, ground := Ground.data }], guard := none },
  { dst := some 21, op := Op.call { callee := Callee.value (Operand.func 23), args := #[Operand.tmp 20], argTypes := #[9] }, type := 3, pos := "date.go:106", after := #[{ on := 11, ground := Ground.data }, { on := 9, ground := Ground.chain }], guard := none },
  { dst := some 22, op := Op.move (Operand.tmp 0), type := 9, pos := "date.go:102", after := #[], guard := none },
  { dst := some 23, op := Op.slice 9 (Operand.tmp 22) (some (Operand.const (Value.int IntKind.i64 15))) (some (Operand.const (Value.int IntKind.i64 17))) none, type := 9, pos := "date.go:102", after := #[{ on := 13, ground := Ground.data }], guard := none },
  { dst := some 24, op := Op.call { callee := Callee.value (Operand.func 23), args := #[Operand.tmp 23], argTypes := #[9] }, type := 3, pos := "date.go:107", after := #[{ on := 14, ground := Ground.data }, { on := 12, ground := Ground.chain }], guard := none },
  { dst := some 25, op := Op.move (Operand.tmp 0), type := 9, pos := "date.go:102", after := #[], guard := none },
  { dst := some 26, op := Op.slice 9 (Operand.tmp 25) (some (Operand.const (Value.int IntKind.i64 18))) (some (Operand.const (Value.int IntKind.i64 20))) none, type := 9, pos := "date.go:102", after := #[{ on := 16, ground := Ground.data }], guard := none },
  { dst := some 27, op := Op.call { callee := Callee.value (Operand.func 23), args := #[Operand.tmp 26], argTypes := #[9] }, type := 3, pos := "date.go:108", after := #[{ on := 17, ground := Ground.data }, { on := 15, ground := Ground.chain }], guard := none },
  { dst := some 28, op := Op.move (Operand.tmp 0), type := 9, pos := "date.go:102", after := #[], guard := none },
  { dst := some 29, op := Op.slice 9 (Operand.tmp 28) (some (Operand.const (Value.int IntKind.i64 22))) (some (Operand.const (Value.int IntKind.i64 24))) none, type := 9, pos := "date.go:102", after := #[{ on := 19, ground := Ground.data }], guard := none },
  { dst := some 30, op := Op.call { callee := Callee.value (Operand.func 23), args := #[Operand.tmp 29], argTypes := #[9] }, type := 3, pos := "date.go:109", after := #[{ on := 20, ground := Ground.data }, { on := 18, ground := Ground.chain }], guard := none },
  { dst := some 31, op := Op.binOp BinOp.mul 3 (Operand.tmp 30) (Operand.const (Value.int IntKind.i64 60)) 3, type := 3, pos := "date.go:102", after := #[{ on := 21, ground := Ground.data }], guard := none },
  { dst := some 32, op := Op.move (Operand.tmp 0), type := 9, pos := "date.go:102", after := #[], guard := none },
  { dst := some 33, op := Op.slice 9 (Operand.tmp 32) (some (Operand.const (Value.int IntKind.i64 24))) none none, type := 9, pos := "date.go:102", after := #[{ on := 23, ground := Ground.data }], guard := none },
  { dst := some 34, op := Op.call { callee := Callee.value (Operand.func 23), args := #[Operand.tmp 33], argTypes := #[9] }, type := 3, pos := "date.go:109", after := #[{ on := 24, ground := Ground.data }, { on := 21, ground := Ground.chain }], guard := none },
  { dst := some 35, op := Op.binOp BinOp.add 3 (Operand.tmp 31) (Operand.tmp 34) 3, type := 3, pos := "date.go:102", after := #[{ on := 22, ground := Ground.data }, { on := 25, ground := Ground.data }], guard := none },
  { dst := some 36, op := Op.build 24 #[(2, Operand.tmp 12), (1, Operand.tmp 15), (0, Operand.tmp 18), (3, Operand.tmp 21), (4, Operand.tmp 24), (5, Operand.tmp 27), (6, Operand.tmp 35)], type := 24, pos := "date.go:102", after := #[{ on := 3, ground := Ground.data }, { on := 6, ground := Ground.data }, { on := 9, ground := Ground.data }, { on := 12, ground := Ground.data }, { on := 15, ground := Ground.data }, { on := 18, ground := Ground.data }, { on := 26, ground := Ground.data }], guard := none },
  { dst := some 4, op := Op.alloc 24, type := 0, pos := "date.go:102", after := #[], guard := none },
  { dst := none, op := Op.store 24 (Operand.tmp 4) (Operand.tmp 36), type := 0, pos := "date.go:102", after := #[{ on := 28, ground := Ground.data }, { on := 27, ground := Ground.data }, { on := 25, ground := Ground.chain }, { on := 0, ground := Ground.phase }, { on := 1, ground := Ground.phase }, { on := 2, ground := Ground.phase }, { on := 3, ground := Ground.phase }, { on := 4, ground := Ground.phase }, { on := 5, ground := Ground.phase }, { on := 6, ground := Ground.phase }, { on := 7, ground := Ground.phase }, { on := 8, ground := Ground.phase }, { on := 9, ground := Ground.phase }, { on := 10, ground := Ground.phase }, { on := 11, ground := Ground.phase }, { on := 12, ground := Ground.phase }, { on := 13, ground := Ground.phase }, { on := 14, ground := Ground.phase }, { on := 15, ground := Ground.phase }, { on := 16, ground := Ground.phase }, { on := 17, ground := Ground.phase }, { on := 18, ground := Ground.phase }, { on := 19, ground := Ground.phase }, { on := 20, ground := Ground.phase }, { on := 21, ground := Ground.phase }, { on := 22, ground := Ground.phase }, { on := 23, ground := Ground.phase }, { on := 24, ground := Ground.phase }, { on := 25, ground := Ground.phase }, { on := 26, ground := Ground.phase }, { on := 27, ground := Ground.phase }, { on := 28, ground := Ground.phase }], guard := none }]

def par3Vals (s p1 pt p2 p3 p4 p5 p6 p7 p8 : ByteArray) (xd xo xy xt xi xs zh zm : Int) : List (Nat × Nat × Value) := [(0, 9, .string s), (1, 10, .string p1), (4, 13, .string s), (5, 14, .string p2), (7, 16, .string s), (8, 17, .string p3), (10, 19, .string s), (11, 20, .string p4), (13, 22, .string s), (14, 23, .string p5), (16, 25, .string s), (17, 26, .string p6), (19, 28, .string s), (20, 29, .string p7), (22, 31, .int .i64 (zh * 60)), (23, 32, .string s), (24, 33, .string p8), (26, 35, .int .i64 (zh * 60 + zm)), (27, 36, .agg #[.int .i64 xy, .int .i64 xo, .int .i64 xd, .int .i64 xt, .int .i64 xi, .int .i64 xs, .int .i64 (zh * 60 + zm)])]
def par3C : List (Nat × Nat) := [(2, 11), (3, 12), (6, 15), (9, 18), (12, 21), (15, 24), (18, 27), (21, 30), (25, 34), (28, 4), (29, 1000029)]

set_option maxHeartbeats 600000 in
set_option maxRecDepth 100000 in
theorem par3 {Q : Exit → Act → World → Prop} {a0 : Act} {wp : World} (s p1 pt p2 p3 p4 p5 p6 p7 p8 : ByteArray) (xd xo xy xt xi xs zh zm : Int) (S : (Nat → Bool) → (Nat → Value) → World → Prop)
    (hsz : 36 < a0.tmps.size) (in0 : a0.eval (.tmp 0) = .string s)
    (hsz : s.size = 26) (hqp1 : s.extract 0 2 = p1) (hqp2 : s.extract 3 6 = p2) (hqp3 : s.extract 7 11 = p3) (hqp4 : s.extract 12 14 = p4) (hqp5 : s.extract 15 17 = p5) (hqp6 : s.extract 18 20 = p6) (hqp7 : s.extract 22 24 = p7) (hqp8 : s.extract 24 26 = p8)
    (c0 : ∀ f R w, S f R w → f 0 = false → Calls Tryd.prog 24 #[.string p1, .string ⟨#[32]⟩] w fun e w' => ∃ v, e = .returned v ∧ S (setF f 0) (setR R 0 v) w')
    (c1 : ∀ f R w, S f R w → f 0 = true → f 1 = false → R 0 = .string pt ∧ Calls Tryd.prog 23 #[.string pt] w fun e w' => ∃ v, e = .returned v ∧ S (setF f 1) (setR R 1 v) w')
    (c2 : ∀ f R w, S f R w → f 2 = false → Calls Tryd.prog 25 #[.string p2] w fun e w' => ∃ v, e = .returned v ∧ S (setF f 2) (setR R 2 v) w')
    (c3 : ∀ f R w, S f R w → f 3 = false → Calls Tryd.prog 23 #[.string p3] w fun e w' => ∃ v, e = .returned v ∧ S (setF f 3) (setR R 3 v) w')
    (c4 : ∀ f R w, S f R w → f 4 = false → Calls Tryd.prog 23 #[.string p4] w fun e w' => ∃ v, e = .returned v ∧ S (setF f 4) (setR R 4 v) w')
    (c5 : ∀ f R w, S f R w → f 5 = false → Calls Tryd.prog 23 #[.string p5] w fun e w' => ∃ v, e = .returned v ∧ S (setF f 5) (setR R 5 v) w')
    (c6 : ∀ f R w, S f R w → f 6 = false → Calls Tryd.prog 23 #[.string p6] w fun e w' => ∃ v, e = .returned v ∧ S (setF f 6) (setR R 6 v) w')
    (c7 : ∀ f R w, S f R w → f 7 = false → Calls Tryd.prog 23 #[.string p7] w fun e w' => ∃ v, e = .returned v ∧ S (setF f 7) (setR R 7 v) w')
    (c8 : ∀ f R w, S f R w → f 8 = false → Calls Tryd.prog 23 #[.string p8] w fun e w' => ∃ v, e = .returned v ∧ S (setF f 8) (setR R 8 v) w')
    (c9 : ∀ f R w, S f R w → f 9 = false → S (setF f 9) (setR R 9 (.pointer (some ⟨w.heap.size, 0, none⟩))) (w.alloc (.cells #[.int .i64 0, .int .i64 0, .int .i64 0, .int .i64 0, .int .i64 0, .int .i64 0, .int .i64 0] 24)))
    (c10 : ∀ f R w, S f R w → f 9 = true → f 10 = false → ∃ g, R 9 = .pointer (some ⟨g, 0, none⟩) ∧ (∀ i, i < 7 → w.cell? ⟨g, i, none⟩ = some (.int .i64 0) ∧ w.frozen? ⟨g, i, none⟩ = false) ∧ S (setF f 10) R (((((((w.setCell ⟨g, 0, none⟩ (.int .i64 xy)).setCell ⟨g, 1, none⟩ (.int .i64 xo)).setCell ⟨g, 2, none⟩ (.int .i64 xd)).setCell ⟨g, 3, none⟩ (.int .i64 xt)).setCell ⟨g, 4, none⟩ (.int .i64 xi)).setCell ⟨g, 5, none⟩ (.int .i64 xs)).setCell ⟨g, 6, none⟩ (.int .i64 (zh * 60 + zm))))
    (hv : ∀ f R w, S f R w → ∀ k v, f k = true → [none, some xd, some xo, some xy, some xt, some xi, some xs, some zh, some zm][k]? = some (some v) → R k = .int .i64 v)
    (z1 : IntKind.i64.wrap (zh * 60) = zh * 60) (z2 : IntKind.i64.wrap (zh * 60 + zm) = zh * 60 + zm)
    (hS : S (fun _ => false) (resOf par3C fun t => a0.eval (.tmp t)) wp.drew)
    (fin : ∀ a w f, Fr [9, 10, 11, 12, 13, 14, 15, 16, 17, 18, 19, 20, 21, 22, 23, 24, 25, 26, 27, 28, 29, 30, 31, 32, 33, 34, 35, 36, 4] a0 a → (∀ j, j < 11 → f j = true) → S f (resOf par3C fun t => a.eval (.tmp t)) w → Q .normal a w) :
    (Code.region 3 opsPar3 true).wp Tryd.prog Q a0 wp := by
  refine region_inv (by kernel_rfl) [9, 10, 11, 12, 13, 14, 15, 16, 17, 18, 19, 20, 21, 22, 23, 24, 25, 26, 27, 28, 29, 30, 31, 32, 33, 34, 35, 36, 4] (by kernel_rfl) (by kernel_rfl) (fun t ht => by simp at ht; omega) (GF (par3Vals s p1 pt p2 p3 p4 p5 p6 p7 p8 xd xo xy xt xi xs zh zm) par3C S) (.start hS) ?_
    (fun L a w hf hall hG => fin a w (flagsOf par3C L) hf  (fun j hj => by
      match j, hj with
      | 0, _ => exact (flagsOf_at (C := par3C) (j := 0) rfl L).trans (hall 2 (by decide))
      | 1, _ => exact (flagsOf_at (C := par3C) (j := 1) rfl L).trans (hall 3 (by decide))
      | 2, _ => exact (flagsOf_at (C := par3C) (j := 2) rfl L).trans (hall 6 (by decide))
      | 3, _ => exact (flagsOf_at (C := par3C) (j := 3) rfl L).trans (hall 9 (by decide))
      | 4, _ => exact (flagsOf_at (C := par3C) (j := 4) rfl L).trans (hall 12 (by decide))
      | 5, _ => exact (flagsOf_at (C := par3C) (j := 5) rfl L).trans (hall 15 (by decide))
      | 6, _ => exact (flagsOf_at (C := par3C) (j := 6) rfl L).trans (hall 18 (by decide))
      | 7, _ => exact (flagsOf_at (C := par3C) (j := 7) rfl L).trans (hall 21 (by decide))
      | 8, _ => exact (flagsOf_at (C := par3C) (j := 8) rfl L).trans (hall 25 (by decide))
      | 9, _ => exact (flagsOf_at (C := par3C) (j := 9) rfl L).trans (hall 28 (by decide))
      | 10, _ => exact (flagsOf_at (C := par3C) (j := 10) rfl L).trans (hall 29 (by decide))
      | n + 11, h => exact absurd h (by omega)) hG.1)
  clear hS fin
  intro ix oo ho L a w hfr hG hLi hdep hcl K hK
  have e0 : a.tmps[0]?.getD undef = .string s := by rw [← ev]; exact (hfr.same 0 (by decide)).trans in0
  clear in0
  match ix, ho with
  | 0, ho =>
    simp only [opsPar3, List.getElem?_toArray, List.getElem?_cons_zero, Option.some.injEq] at ho
    subst ho
    rw [if_pos (show Region.wanted _ _ = true from rfl)]
    have hSp := hG.1
    have hf0 : flagsOf par3C L 0 = false := (flagsOf_at (C := par3C) (j := 0) rfl L).trans (by
      cases hl : L 2 with
      | false => rfl
      | true => exact absurd (hcl 1 _ rfl (hcl 2 _ rfl (hl) ⟨1, .data⟩ (by simp [opsPar3]) rfl) ⟨0, .data⟩ (by simp [opsPar3]) rfl) (by rw [hLi]; decide))
    have hf1 : flagsOf par3C L 1 = false := (flagsOf_at (C := par3C) (j := 1) rfl L).trans (by
      cases hl : L 3 with
      | false => rfl
      | true => exact absurd (hcl 1 _ rfl (hcl 2 _ rfl (hcl 3 _ rfl (hl) ⟨2, .data⟩ (by simp [opsPar3]) rfl) ⟨1, .data⟩ (by simp [opsPar3]) rfl) ⟨0, .data⟩ (by simp [opsPar3]) rfl) (by rw [hLi]; decide))
    have hf2 : flagsOf par3C L 2 = false := (flagsOf_at (C := par3C) (j := 2) rfl L).trans (by
      cases hl : L 6 with
      | false => rfl
      | true => exact absurd (hcl 1 _ rfl (hcl 2 _ rfl (hcl 3 _ rfl (hcl 6 _ rfl (hl) ⟨3, .chain⟩ (by simp [opsPar3]) rfl) ⟨2, .data⟩ (by simp [opsPar3]) rfl) ⟨1, .data⟩ (by simp [opsPar3]) rfl) ⟨0, .data⟩ (by simp [opsPar3]) rfl) (by rw [hLi]; decide))
    have hf3 : flagsOf par3C L 3 = false := (flagsOf_at (C := par3C) (j := 3) rfl L).trans (by
      cases hl : L 9 with
      | false => rfl
      | true => exact absurd (hcl 1 _ rfl (hcl 2 _ rfl (hcl 3 _ rfl (hcl 6 _ rfl (hcl 9 _ rfl (hl) ⟨6, .chain⟩ (by simp [opsPar3]) rfl) ⟨3, .chain⟩ (by simp [opsPar3]) rfl) ⟨2, .data⟩ (by simp [opsPar3]) rfl) ⟨1, .data⟩ (by simp [opsPar3]) rfl) ⟨0, .data⟩ (by simp [opsPar3]) rfl) (by rw [hLi]; decide))
    have hf4 : flagsOf par3C L 4 = false := (flagsOf_at (C := par3C) (j := 4) rfl L).trans (by
      cases hl : L 12 with
      | false => rfl
      | true => exact absurd (hcl 1 _ rfl (hcl 2 _ rfl (hcl 3 _ rfl (hcl 6 _ rfl (hcl 9 _ rfl (hcl 12 _ rfl (hl) ⟨9, .chain⟩ (by simp [opsPar3]) rfl) ⟨6, .chain⟩ (by simp [opsPar3]) rfl) ⟨3, .chain⟩ (by simp [opsPar3]) rfl) ⟨2, .data⟩ (by simp [opsPar3]) rfl) ⟨1, .data⟩ (by simp [opsPar3]) rfl) ⟨0, .data⟩ (by simp [opsPar3]) rfl) (by rw [hLi]; decide))
    have hf5 : flagsOf par3C L 5 = false := (flagsOf_at (C := par3C) (j := 5) rfl L).trans (by
      cases hl : L 15 with
      | false => rfl
      | true => exact absurd (hcl 1 _ rfl (hcl 2 _ rfl (hcl 3 _ rfl (hcl 6 _ rfl (hcl 9 _ rfl (hcl 12 _ rfl (hcl 15 _ rfl (hl) ⟨12, .chain⟩ (by simp [opsPar3]) rfl) ⟨9, .chain⟩ (by simp [opsPar3]) rfl) ⟨6, .chain⟩ (by simp [opsPar3]) rfl) ⟨3, .chain⟩ (by simp [opsPar3]) rfl) ⟨2, .data⟩ (by simp [opsPar3]) rfl) ⟨1, .data⟩ (by simp [opsPar3]) rfl) ⟨0, .data⟩ (by simp [opsPar3]) rfl) (by rw [hLi]; decide))
    have hf6 : flagsOf par3C L 6 = false := (flagsOf_at (C := par3C) (j := 6) rfl L).trans (by
      cases hl : L 18 with
      | false => rfl
      | true => exact absurd (hcl 1 _ rfl (hcl 2 _ rfl (hcl 3 _ rfl (hcl 6 _ rfl (hcl 9 _ rfl (hcl 12 _ rfl (hcl 15 _ rfl (hcl 18 _ rfl (hl) ⟨15, .chain⟩ (by simp [opsPar3]) rfl) ⟨12, .chain⟩ (by simp [opsPar3]) rfl) ⟨9, .chain⟩ (by simp [opsPar3]) rfl) ⟨6, .chain⟩ (by simp [opsPar3]) rfl) ⟨3, .chain⟩ (by simp [opsPar3]) rfl) ⟨2, .data⟩ (by simp [opsPar3]) rfl) ⟨1, .data⟩ (by simp [opsPar3]) rfl) ⟨0, .data⟩ (by simp [opsPar3]) rfl) (by rw [hLi]; decide))
    have hf7 : flagsOf par3C L 7 = false := (flagsOf_at (C := par3C) (j := 7) rfl L).trans (by
      cases hl : L 21 with
      | false => rfl
      | true => exact absurd (hcl 1 _ rfl (hcl 2 _ rfl (hcl 3 _ rfl (hcl 6 _ rfl (hcl 9 _ rfl (hcl 12 _ rfl (hcl 15 _ rfl (hcl 18 _ rfl (hcl 21 _ rfl (hl) ⟨18, .chain⟩ (by simp [opsPar3]) rfl) ⟨15, .chain⟩ (by simp [opsPar3]) rfl) ⟨12, .chain⟩ (by simp [opsPar3]) rfl) ⟨9, .chain⟩ (by simp [opsPar3]) rfl) ⟨6, .chain⟩ (by simp [opsPar3]) rfl) ⟨3, .chain⟩ (by simp [opsPar3]) rfl) ⟨2, .data⟩ (by simp [opsPar3]) rfl) ⟨1, .data⟩ (by simp [opsPar3]) rfl) ⟨0, .data⟩ (by simp [opsPar3]) rfl) (by rw [hLi]; decide))
    have hf8 : flagsOf par3C L 8 = false := (flagsOf_at (C := par3C) (j := 8) rfl L).trans (by
      cases hl : L 25 with
      | false => rfl
      | true => exact absurd (hcl 1 _ rfl (hcl 2 _ rfl (hcl 3 _ rfl (hcl 6 _ rfl (hcl 9 _ rfl (hcl 12 _ rfl (hcl 15 _ rfl (hcl 18 _ rfl (hcl 21 _ rfl (hcl 25 _ rfl (hl) ⟨21, .chain⟩ (by simp [opsPar3]) rfl) ⟨18, .chain⟩ (by simp [opsPar3]) rfl) ⟨15, .chain⟩ (by simp [opsPar3]) rfl) ⟨12, .chain⟩ (by simp [opsPar3]) rfl) ⟨9, .chain⟩ (by simp [opsPar3]) rfl) ⟨6, .chain⟩ (by simp [opsPar3]) rfl) ⟨3, .chain⟩ (by simp [opsPar3]) rfl) ⟨2, .data⟩ (by simp [opsPar3]) rfl) ⟨1, .data⟩ (by simp [opsPar3]) rfl) ⟨0, .data⟩ (by simp [opsPar3]) rfl) (by rw [hLi]; decide))
    have hf10 : flagsOf par3C L 10 = false := (flagsOf_at (C := par3C) (j := 10) rfl L).trans (by
      cases hl : L 29 with
      | false => rfl
      | true => exact absurd (hcl 29 _ rfl (hl) ⟨0, .phase⟩ (by simp [opsPar3]) rfl) (by rw [hLi]; decide))
    have hfin := hK (.string s) w (hG.quiet 0 0 9 _ rfl (by kernel_rfl) (by kernel_rfl))
    have HK := Lib.hid hfin
    generalize (resOf par3C fun t => a.eval (.tmp t)) = R at *
    generalize flagsOf par3C L = f at *
    clear hsz z1 z2 c0 c1 c2 c3 c4 c5 c6 c7 c8 c9 c10 hv hqp1 hqp2 hqp3 hqp4 hqp5 hqp6 hqp7 hqp8
    clear hSp
    clear hG hcl hdep hfr hK hfin hLi 
    go_simp
    exact HK.out
  | 1, ho =>
    simp only [opsPar3, List.getElem?_toArray, List.getElem?_cons_succ, List.getElem?_cons_zero, Option.some.injEq] at ho
    subst ho
    have x9 : a.tmps[9]?.getD undef = .string s := by rw [← ev]; exact hG.val 0 0 9 _ rfl (hdep ⟨0, .data⟩ (by simp) rfl)
    rw [if_pos (show Region.wanted _ _ = true from rfl)]
    have hSp := hG.1
    have hf0 : flagsOf par3C L 0 = false := (flagsOf_at (C := par3C) (j := 0) rfl L).trans (by
      cases hl : L 2 with
      | false => rfl
      | true => exact absurd (hcl 2 _ rfl (hl) ⟨1, .data⟩ (by simp [opsPar3]) rfl) (by rw [hLi]; decide))
    have hf1 : flagsOf par3C L 1 = false := (flagsOf_at (C := par3C) (j := 1) rfl L).trans (by
      cases hl : L 3 with
      | false => rfl
      | true => exact absurd (hcl 2 _ rfl (hcl 3 _ rfl (hl) ⟨2, .data⟩ (by simp [opsPar3]) rfl) ⟨1, .data⟩ (by simp [opsPar3]) rfl) (by rw [hLi]; decide))
    have hf2 : flagsOf par3C L 2 = false := (flagsOf_at (C := par3C) (j := 2) rfl L).trans (by
      cases hl : L 6 with
      | false => rfl
      | true => exact absurd (hcl 2 _ rfl (hcl 3 _ rfl (hcl 6 _ rfl (hl) ⟨3, .chain⟩ (by simp [opsPar3]) rfl) ⟨2, .data⟩ (by simp [opsPar3]) rfl) ⟨1, .data⟩ (by simp [opsPar3]) rfl) (by rw [hLi]; decide))
    have hf3 : flagsOf par3C L 3 = false := (flagsOf_at (C := par3C) (j := 3) rfl L).trans (by
      cases hl : L 9 with
      | false => rfl
      | true => exact absurd (hcl 2 _ rfl (hcl 3 _ rfl (hcl 6 _ rfl (hcl 9 _ rfl (hl) ⟨6, .chain⟩ (by simp [opsPar3]) rfl) ⟨3, .chain⟩ (by simp [opsPar3]) rfl) ⟨2, .data⟩ (by simp [opsPar3]) rfl) ⟨1, .data⟩ (by simp [opsPar3]) rfl) (by rw [hLi]; decide))
    have hf4 : flagsOf par3C L 4 = false := (flagsOf_at (C := par3C) (j := 4) rfl L).trans (by
      cases hl : L 12 with
      | false => rfl
      | true => exact absurd (hcl 2 _ rfl (hcl 3 _ rfl (hcl 6 _ rfl (hcl 9 _ rfl (hcl 12 _ rfl (hl) ⟨9, .chain⟩ (by simp [opsPar3]) rfl) ⟨6, .chain⟩ (by simp [opsPar3]) rfl) ⟨3, .chain⟩ (by simp [opsPar3]) rfl) ⟨2, .data⟩ (by simp [opsPar3]) rfl) ⟨1, .data⟩ (by simp [opsPar3]) rfl) (by rw [hLi]; decide))
    have hf5 : flagsOf par3C L 5 = false := (flagsOf_at (C := par3C) (j := 5) rfl L).trans (by
      cases hl : L 15 with
      | false => rfl
      | true => exact absurd (hcl 2 _ rfl (hcl 3 _ rfl (hcl 6 _ rfl (hcl 9 _ rfl (hcl 12 _ rfl (hcl 15 _ rfl (hl) ⟨12, .chain⟩ (by simp [opsPar3]) rfl) ⟨9, .chain⟩ (by simp [opsPar3]) rfl) ⟨6, .chain⟩ (by simp [opsPar3]) rfl) ⟨3, .chain⟩ (by simp [opsPar3]) rfl) ⟨2, .data⟩ (by simp [opsPar3]) rfl) ⟨1, .data⟩ (by simp [opsPar3]) rfl) (by rw [hLi]; decide))
    have hf6 : flagsOf par3C L 6 = false := (flagsOf_at (C := par3C) (j := 6) rfl L).trans (by
      cases hl : L 18 with
      | false => rfl
      | true => exact absurd (hcl 2 _ rfl (hcl 3 _ rfl (hcl 6 _ rfl (hcl 9 _ rfl (hcl 12 _ rfl (hcl 15 _ rfl (hcl 18 _ rfl (hl) ⟨15, .chain⟩ (by simp [opsPar3]) rfl) ⟨12, .chain⟩ (by simp [opsPar3]) rfl) ⟨9, .chain⟩ (by simp [opsPar3]) rfl) ⟨6, .chain⟩ (by simp [opsPar3]) rfl) ⟨3, .chain⟩ (by simp [opsPar3]) rfl) ⟨2, .data⟩ (by simp [opsPar3]) rfl) ⟨1, .data⟩ (by simp [opsPar3]) rfl) (by rw [hLi]; decide))
    have hf7 : flagsOf par3C L 7 = false := (flagsOf_at (C := par3C) (j := 7) rfl L).trans (by
      cases hl : L 21 with
      | false => rfl
      | true => exact absurd (hcl 2 _ rfl (hcl 3 _ rfl (hcl 6 _ rfl (hcl 9 _ rfl (hcl 12 _ rfl (hcl 15 _ rfl (hcl 18 _ rfl (hcl 21 _ rfl (hl) ⟨18, .chain⟩ (by simp [opsPar3]) rfl) ⟨15, .chain⟩ (by simp [opsPar3]) rfl) ⟨12, .chain⟩ (by simp [opsPar3]) rfl) ⟨9, .chain⟩ (by simp [opsPar3]) rfl) ⟨6, .chain⟩ (by simp [opsPar3]) rfl) ⟨3, .chain⟩ (by simp [opsPar3]) rfl) ⟨2, .data⟩ (by simp [opsPar3]) rfl) ⟨1, .data⟩ (by simp [opsPar3]) rfl) (by rw [hLi]; decide))
    have hf8 : flagsOf par3C L 8 = false := (flagsOf_at (C := par3C) (j := 8) rfl L).trans (by
      cases hl : L 25 with
      | false => rfl
      | true => exact absurd (hcl 2 _ rfl (hcl 3 _ rfl (hcl 6 _ rfl (hcl 9 _ rfl (hcl 12 _ rfl (hcl 15 _ rfl (hcl 18 _ rfl (hcl 21 _ rfl (hcl 25 _ rfl (hl) ⟨21, .chain⟩ (by simp [opsPar3]) rfl) ⟨18, .chain⟩ (by simp [opsPar3]) rfl) ⟨15, .chain⟩ (by simp [opsPar3]) rfl) ⟨12, .chain⟩ (by simp [opsPar3]) rfl) ⟨9, .chain⟩ (by simp [opsPar3]) rfl) ⟨6, .chain⟩ (by simp [opsPar3]) rfl) ⟨3, .chain⟩ (by simp [opsPar3]) rfl) ⟨2, .data⟩ (by simp [opsPar3]) rfl) ⟨1, .data⟩ (by simp [opsPar3]) rfl) (by rw [hLi]; decide))
    have hf10 : flagsOf par3C L 10 = false := (flagsOf_at (C := par3C) (j := 10) rfl L).trans (by
      cases hl : L 29 with
      | false => rfl
      | true => exact absurd (hcl 29 _ rfl (hl) ⟨1, .phase⟩ (by simp [opsPar3]) rfl) (by rw [hLi]; decide))
    have hfin := hK (.string p1) w (hG.quiet 1 1 10 _ rfl (by kernel_rfl) (by kernel_rfl))
    have HK := Lib.hid hfin
    generalize (resOf par3C fun t => a.eval (.tmp t)) = R at *
    generalize flagsOf par3C L = f at *
    clear z1 z2 c0 c1 c2 c3 c4 c5 c6 c7 c8 c9 c10 hv hqp2 hqp3 hqp4 hqp5 hqp6 hqp7 hqp8
    clear hSp
    clear hG hcl hdep hfr hK hfin hLi 
    go_simp
    exact HK.out
  | 2, ho =>
    simp only [opsPar3, List.getElem?_toArray, List.getElem?_cons_succ, List.getElem?_cons_zero, Option.some.injEq] at ho
    subst ho
    have x10 : a.tmps[10]?.getD undef = .string p1 := by rw [← ev]; exact hG.val 1 1 10 _ rfl (hdep ⟨1, .data⟩ (by simp) rfl)
    rw [if_pos (show Region.wanted _ _ = true from rfl)]
    have hSj := hG.1
    have hf0 : flagsOf par3C L 0 = false := (flagsOf_at (C := par3C) (j := 0) rfl L).trans hLi
    have hf1 : flagsOf par3C L 1 = false := (flagsOf_at (C := par3C) (j := 1) rfl L).trans (by
      cases hl : L 3 with
      | false => rfl
      | true => exact absurd (hcl 3 _ rfl (hl) ⟨2, .data⟩ (by simp [opsPar3]) rfl) (by rw [hLi]; decide))
    have hf2 : flagsOf par3C L 2 = false := (flagsOf_at (C := par3C) (j := 2) rfl L).trans (by
      cases hl : L 6 with
      | false => rfl
      | true => exact absurd (hcl 3 _ rfl (hcl 6 _ rfl (hl) ⟨3, .chain⟩ (by simp [opsPar3]) rfl) ⟨2, .data⟩ (by simp [opsPar3]) rfl) (by rw [hLi]; decide))
    have hf3 : flagsOf par3C L 3 = false := (flagsOf_at (C := par3C) (j := 3) rfl L).trans (by
      cases hl : L 9 with
      | false => rfl
      | true => exact absurd (hcl 3 _ rfl (hcl 6 _ rfl (hcl 9 _ rfl (hl) ⟨6, .chain⟩ (by simp [opsPar3]) rfl) ⟨3, .chain⟩ (by simp [opsPar3]) rfl) ⟨2, .data⟩ (by simp [opsPar3]) rfl) (by rw [hLi]; decide))
    have hf4 : flagsOf par3C L 4 = false := (flagsOf_at (C := par3C) (j := 4) rfl L).trans (by
      cases hl : L 12 with
      | false => rfl
      | true => exact absurd (hcl 3 _ rfl (hcl 6 _ rfl (hcl 9 _ rfl (hcl 12 _ rfl (hl) ⟨9, .chain⟩ (by simp [opsPar3]) rfl) ⟨6, .chain⟩ (by simp [opsPar3]) rfl) ⟨3, .chain⟩ (by simp [opsPar3]) rfl) ⟨2, .data⟩ (by simp [opsPar3]) rfl) (by rw [hLi]; decide))
    have hf5 : flagsOf par3C L 5 = false := (flagsOf_at (C := par3C) (j := 5) rfl L).trans (by
      cases hl : L 15 with
      | false => rfl
      | true => exact absurd (hcl 3 _ rfl (hcl 6 _ rfl (hcl 9 _ rfl (hcl 12 _ rfl (hcl 15 _ rfl (hl) ⟨12, .chain⟩ (by simp [opsPar3]) rfl) ⟨9, .chain⟩ (by simp [opsPar3]) rfl) ⟨6, .chain⟩ (by simp [opsPar3]) rfl) ⟨3, .chain⟩ (by simp [opsPar3]) rfl) ⟨2, .data⟩ (by simp [opsPar3]) rfl) (by rw [hLi]; decide))
    have hf6 : flagsOf par3C L 6 = false := (flagsOf_at (C := par3C) (j := 6) rfl L).trans (by
      cases hl : L 18 with
      | false => rfl
      | true => exact absurd (hcl 3 _ rfl (hcl 6 _ rfl (hcl 9 _ rfl (hcl 12 _ rfl (hcl 15 _ rfl (hcl 18 _ rfl (hl) ⟨15, .chain⟩ (by simp [opsPar3]) rfl) ⟨12, .chain⟩ (by simp [opsPar3]) rfl) ⟨9, .chain⟩ (by simp [opsPar3]) rfl) ⟨6, .chain⟩ (by simp [opsPar3]) rfl) ⟨3, .chain⟩ (by simp [opsPar3]) rfl) ⟨2, .data⟩ (by simp [opsPar3]) rfl) (by rw [hLi]; decide))
    have hf7 : flagsOf par3C L 7 = false := (flagsOf_at (C := par3C) (j := 7) rfl L).trans (by
      cases hl : L 21 with
      | false => rfl
      | true => exact absurd (hcl 3 _ rfl (hcl 6 _ rfl (hcl 9 _ rfl (hcl 12 _ rfl (hcl 15 _ rfl (hcl 18 _ rfl (hcl 21 _ rfl (hl) ⟨18, .chain⟩ (by simp [opsPar3]) rfl) ⟨15, .chain⟩ (by simp [opsPar3]) rfl) ⟨12, .chain⟩ (by simp [opsPar3]) rfl) ⟨9, .chain⟩ (by simp [opsPar3]) rfl) ⟨6, .chain⟩ (by simp [opsPar3]) rfl) ⟨3, .chain⟩ (by simp [opsPar3]) rfl) ⟨2, .data⟩ (by simp [opsPar3]) rfl) (by rw [hLi]; decide))
    have hf8 : flagsOf par3C L 8 = false := (flagsOf_at (C := par3C) (j := 8) rfl L).trans (by
      cases hl : L 25 with
      | false => rfl
      | true => exact absurd (hcl 3 _ rfl (hcl 6 _ rfl (hcl 9 _ rfl (hcl 12 _ rfl (hcl 15 _ rfl (hcl 18 _ rfl (hcl 21 _ rfl (hcl 25 _ rfl (hl) ⟨21, .chain⟩ (by simp [opsPar3]) rfl) ⟨18, .chain⟩ (by simp [opsPar3]) rfl) ⟨15, .chain⟩ (by simp [opsPar3]) rfl) ⟨12, .chain⟩ (by simp [opsPar3]) rfl) ⟨9, .chain⟩ (by simp [opsPar3]) rfl) ⟨6, .chain⟩ (by simp [opsPar3]) rfl) ⟨3, .chain⟩ (by simp [opsPar3]) rfl) ⟨2, .data⟩ (by simp [opsPar3]) rfl) (by rw [hLi]; decide))
    have hf10 : flagsOf par3C L 10 = false := (flagsOf_at (C := par3C) (j := 10) rfl L).trans (by
      cases hl : L 29 with
      | false => rfl
      | true => exact absurd (hcl 29 _ rfl (hl) ⟨2, .phase⟩ (by simp [opsPar3]) rfl) (by rw [hLi]; decide))
    have hfin := fun v w' hs => hK v w' (hG.call 0 (2, 11) rfl (by kernel_rfl) v w' hs)
    have HK := Lib.hid hfin
    generalize (resOf par3C fun t => a.eval (.tmp t)) = R at *
    generalize flagsOf par3C L = f at *
    clear hG hcl hdep hfr hK hfin hLi
    have hc := Lib.hid (c0 _ _ _ hSj hf0)
    clear hSj hsz z1 z2 c0 c1 c2 c3 c4 c5 c6 c7 c8 c9 c10 hv hqp1 hqp2 hqp3 hqp4 hqp5 hqp6 hqp7 hqp8
    go_simp
    go_at_call 24
    refine hc.out.mono ?_
    rintro e w' ⟨v, rfl, hs⟩
    exact HK.out v w' hs
  | 3, ho =>
    simp only [opsPar3, List.getElem?_toArray, List.getElem?_cons_succ, List.getElem?_cons_zero, Option.some.injEq] at ho
    subst ho
    rw [if_pos (show Region.wanted _ _ = true from rfl)]
    have hSj := hG.1
    have hf0 : flagsOf par3C L 0 = true := (flagsOf_at (C := par3C) (j := 0) rfl L).trans (hdep ⟨2, .data⟩ (by simp) rfl)
    have hf1 : flagsOf par3C L 1 = false := (flagsOf_at (C := par3C) (j := 1) rfl L).trans hLi
    have hf2 : flagsOf par3C L 2 = false := (flagsOf_at (C := par3C) (j := 2) rfl L).trans (by
      cases hl : L 6 with
      | false => rfl
      | true => exact absurd (hcl 6 _ rfl (hl) ⟨3, .chain⟩ (by simp [opsPar3]) rfl) (by rw [hLi]; decide))
    have hf3 : flagsOf par3C L 3 = false := (flagsOf_at (C := par3C) (j := 3) rfl L).trans (by
      cases hl : L 9 with
      | false => rfl
      | true => exact absurd (hcl 6 _ rfl (hcl 9 _ rfl (hl) ⟨6, .chain⟩ (by simp [opsPar3]) rfl) ⟨3, .chain⟩ (by simp [opsPar3]) rfl) (by rw [hLi]; decide))
    have hf4 : flagsOf par3C L 4 = false := (flagsOf_at (C := par3C) (j := 4) rfl L).trans (by
      cases hl : L 12 with
      | false => rfl
      | true => exact absurd (hcl 6 _ rfl (hcl 9 _ rfl (hcl 12 _ rfl (hl) ⟨9, .chain⟩ (by simp [opsPar3]) rfl) ⟨6, .chain⟩ (by simp [opsPar3]) rfl) ⟨3, .chain⟩ (by simp [opsPar3]) rfl) (by rw [hLi]; decide))
    have hf5 : flagsOf par3C L 5 = false := (flagsOf_at (C := par3C) (j := 5) rfl L).trans (by
      cases hl : L 15 with
      | false => rfl
      | true => exact absurd (hcl 6 _ rfl (hcl 9 _ rfl (hcl 12 _ rfl (hcl 15 _ rfl (hl) ⟨12, .chain⟩ (by simp [opsPar3]) rfl) ⟨9, .chain⟩ (by simp [opsPar3]) rfl) ⟨6, .chain⟩ (by simp [opsPar3]) rfl) ⟨3, .chain⟩ (by simp [opsPar3]) rfl) (by rw [hLi]; decide))
    have hf6 : flagsOf par3C L 6 = false := (flagsOf_at (C := par3C) (j := 6) rfl L).trans (by
      cases hl : L 18 with
      | false => rfl
      | true => exact absurd (hcl 6 _ rfl (hcl 9 _ rfl (hcl 12 _ rfl (hcl 15 _ rfl (hcl 18 _ rfl (hl) ⟨15, .chain⟩ (by simp [opsPar3]) rfl) ⟨12, .chain⟩ (by simp [opsPar3]) rfl) ⟨9, .chain⟩ (by simp [opsPar3]) rfl) ⟨6, .chain⟩ (by simp [opsPar3]) rfl) ⟨3, .chain⟩ (by simp [opsPar3]) rfl) (by rw [hLi]; decide))
    have hf7 : flagsOf par3C L 7 = false := (flagsOf_at (C := par3C) (j := 7) rfl L).trans (by
      cases hl : L 21 with
      | false => rfl
      | true => exact absurd (hcl 6 _ rfl (hcl 9 _ rfl (hcl 12 _ rfl (hcl 15 _ rfl (hcl 18 _ rfl (hcl 21 _ rfl (hl) ⟨18, .chain⟩ (by simp [opsPar3]) rfl) ⟨15, .chain⟩ (by simp [opsPar3]) rfl) ⟨12, .chain⟩ (by simp [opsPar3]) rfl) ⟨9, .chain⟩ (by simp [opsPar3]) rfl) ⟨6, .chain⟩ (by simp [opsPar3]) rfl) ⟨3, .chain⟩ (by simp [opsPar3]) rfl) (by rw [hLi]; decide))
    have hf8 : flagsOf par3C L 8 = false := (flagsOf_at (C := par3C) (j := 8) rfl L).trans (by
      cases hl : L 25 with
      | false => rfl
      | true => exact absurd (hcl 6 _ rfl (hcl 9 _ rfl (hcl 12 _ rfl (hcl 15 _ rfl (hcl 18 _ rfl (hcl 21 _ rfl (hcl 25 _ rfl (hl) ⟨21, .chain⟩ (by simp [opsPar3]) rfl) ⟨18, .chain⟩ (by simp [opsPar3]) rfl) ⟨15, .chain⟩ (by simp [opsPar3]) rfl) ⟨12, .chain⟩ (by simp [opsPar3]) rfl) ⟨9, .chain⟩ (by simp [opsPar3]) rfl) ⟨6, .chain⟩ (by simp [opsPar3]) rfl) ⟨3, .chain⟩ (by simp [opsPar3]) rfl) (by rw [hLi]; decide))
    have hf10 : flagsOf par3C L 10 = false := (flagsOf_at (C := par3C) (j := 10) rfl L).trans (by
      cases hl : L 29 with
      | false => rfl
      | true => exact absurd (hcl 29 _ rfl (hl) ⟨3, .phase⟩ (by simp [opsPar3]) rfl) (by rw [hLi]; decide))
    have r11 : a.tmps[11]?.getD undef = resOf par3C (fun t => a.eval (.tmp t)) 0 := by rw [← ev]; exact (resOf_at (C := par3C) (j := 0) rfl a).symm
    have hfin := fun v w' hs => hK v w' (hG.call 1 (3, 12) rfl (by kernel_rfl) v w' hs)
    have HK := Lib.hid hfin
    generalize (resOf par3C fun t => a.eval (.tmp t)) = R at *
    generalize flagsOf par3C L = f at *
    clear hG hcl hdep hfr hK hfin hLi
    obtain ⟨e0, hcc⟩ := c1 _ _ _ hSj hf0 hf1
    rw [e0] at r11
    have hc := Lib.hid hcc
    clear hSj hcc e0 hsz z1 z2 c0 c1 c2 c3 c4 c5 c6 c7 c8 c9 c10 hv hqp1 hqp2 hqp3 hqp4 hqp5 hqp6 hqp7 hqp8
    go_simp
    go_at_call 23
    refine hc.out.mono ?_
    rintro e w' ⟨v, rfl, hs⟩
    exact HK.out v w' hs
  | 4, ho =>
    simp only [opsPar3, List.getElem?_toArray, List.getElem?_cons_succ, List.getElem?_cons_zero, Option.some.injEq] at ho
    subst ho
    rw [if_pos (show Region.wanted _ _ = true from rfl)]
    have hSp := hG.1
    have hf2 : flagsOf par3C L 2 = false := (flagsOf_at (C := par3C) (j := 2) rfl L).trans (by
      cases hl : L 6 with
      | false => rfl
      | true => exact absurd (hcl 5 _ rfl (hcl 6 _ rfl (hl) ⟨5, .data⟩ (by simp [opsPar3]) rfl) ⟨4, .data⟩ (by simp [opsPar3]) rfl) (by rw [hLi]; decide))
    have hf3 : flagsOf par3C L 3 = false := (flagsOf_at (C := par3C) (j := 3) rfl L).trans (by
      cases hl : L 9 with
      | false => rfl
      | true => exact absurd (hcl 5 _ rfl (hcl 6 _ rfl (hcl 9 _ rfl (hl) ⟨6, .chain⟩ (by simp [opsPar3]) rfl) ⟨5, .data⟩ (by simp [opsPar3]) rfl) ⟨4, .data⟩ (by simp [opsPar3]) rfl) (by rw [hLi]; decide))
    have hf4 : flagsOf par3C L 4 = false := (flagsOf_at (C := par3C) (j := 4) rfl L).trans (by
      cases hl : L 12 with
      | false => rfl
      | true => exact absurd (hcl 5 _ rfl (hcl 6 _ rfl (hcl 9 _ rfl (hcl 12 _ rfl (hl) ⟨9, .chain⟩ (by simp [opsPar3]) rfl) ⟨6, .chain⟩ (by simp [opsPar3]) rfl) ⟨5, .data⟩ (by simp [opsPar3]) rfl) ⟨4, .data⟩ (by simp [opsPar3]) rfl) (by rw [hLi]; decide))
    have hf5 : flagsOf par3C L 5 = false := (flagsOf_at (C := par3C) (j := 5) rfl L).trans (by
      cases hl : L 15 with
      | false => rfl
      | true => exact absurd (hcl 5 _ rfl (hcl 6 _ rfl (hcl 9 _ rfl (hcl 12 _ rfl (hcl 15 _ rfl (hl) ⟨12, .chain⟩ (by simp [opsPar3]) rfl) ⟨9, .chain⟩ (by simp [opsPar3]) rfl) ⟨6, .chain⟩ (by simp [opsPar3]) rfl) ⟨5, .data⟩ (by simp [opsPar3]) rfl) ⟨4, .data⟩ (by simp [opsPar3]) rfl) (by rw [hLi]; decide))
    have hf6 : flagsOf par3C L 6 = false := (flagsOf_at (C := par3C) (j := 6) rfl L).trans (by
      cases hl : L 18 with
      | false => rfl
      | true => exact absurd (hcl 5 _ rfl (hcl 6 _ rfl (hcl 9 _ rfl (hcl 12 _ rfl (hcl 15 _ rfl (hcl 18 _ rfl (hl) ⟨15, .chain⟩ (by simp [opsPar3]) rfl) ⟨12, .chain⟩ (by simp [opsPar3]) rfl) ⟨9, .chain⟩ (by simp [opsPar3]) rfl) ⟨6, .chain⟩ (by simp [opsPar3]) rfl) ⟨5, .data⟩ (by simp [opsPar3]) rfl) ⟨4, .data⟩ (by simp [opsPar3]) rfl) (by rw [hLi]; decide))
    have hf7 : flagsOf par3C L 7 = false := (flagsOf_at (C := par3C) (j := 7) rfl L).trans (by
      cases hl : L 21 with
      | false => rfl
      | true => exact absurd (hcl 5 _ rfl (hcl 6 _ rfl (hcl 9 _ rfl (hcl 12 _ rfl (hcl 15 _ rfl (hcl 18 _ rfl (hcl 21 _ rfl (hl) ⟨18, .chain⟩ (by simp [opsPar3]) rfl) ⟨15, .chain⟩ (by simp [opsPar3]) rfl) ⟨12, .chain⟩ (by simp [opsPar3]) rfl) ⟨9, .chain⟩ (by simp [opsPar3]) rfl) ⟨6, .chain⟩ (by simp [opsPar3]) rfl) ⟨5, .data⟩ (by simp [opsPar3]) rfl) ⟨4, .data⟩ (by simp [opsPar3]) rfl) (by rw [hLi]; decide))
    have hf8 : flagsOf par3C L 8 = false := (flagsOf_at (C := par3C) (j := 8) rfl L).trans (by
      cases hl : L 25 with
      | false => rfl
      | true => exact absurd (hcl 5 _ rfl (hcl 6 _ rfl (hcl 9 _ rfl (hcl 12 _ rfl (hcl 15 _ rfl (hcl 18 _ rfl (hcl 21 _ rfl (hcl 25 _ rfl (hl) ⟨21, .chain⟩ (by simp [opsPar3]) rfl) ⟨18, .chain⟩ (by simp [opsPar3]) rfl) ⟨15, .chain⟩ (by simp [opsPar3]) rfl) ⟨12, .chain⟩ (by simp [opsPar3]) rfl) ⟨9, .chain⟩ (by simp [opsPar3]) rfl) ⟨6, .chain⟩ (by simp [opsPar3]) rfl) ⟨5, .data⟩ (by simp [opsPar3]) rfl) ⟨4, .data⟩ (by simp [opsPar3]) rfl) (by rw [hLi]; decide))
    have hf10 : flagsOf par3C L 10 = false := (flagsOf_at (C := par3C) (j := 10) rfl L).trans (by
      cases hl : L 29 with
      | false => rfl
      | true => exact absurd (hcl 29 _ rfl (hl) ⟨4, .phase⟩ (by simp [opsPar3]) rfl) (by rw [hLi]; decide))
    have hfin := hK (.string s) w (hG.quiet 2 4 13 _ rfl (by kernel_rfl) (by kernel_rfl))
    have HK := Lib.hid hfin
    generalize (resOf par3C fun t => a.eval (.tmp t)) = R at *
    generalize flagsOf par3C L = f at *
    clear hsz z1 z2 c0 c1 c2 c3 c4 c5 c6 c7 c8 c9 c10 hv hqp1 hqp2 hqp3 hqp4 hqp5 hqp6 hqp7 hqp8
    clear hSp
    clear hG hcl hdep hfr hK hfin hLi 
    go_simp
    exact HK.out
  | 5, ho =>
    simp only [opsPar3, List.getElem?_toArray, List.getElem?_cons_succ, List.getElem?_cons_zero, Option.some.injEq] at ho
    subst ho
    have x13 : a.tmps[13]?.getD undef = .string s := by rw [← ev]; exact hG.val 2 4 13 _ rfl (hdep ⟨4, .data⟩ (by simp) rfl)
    rw [if_pos (show Region.wanted _ _ = true from rfl)]
    have hSp := hG.1
    have hf2 : flagsOf par3C L 2 = false := (flagsOf_at (C := par3C) (j := 2) rfl L).trans (by
      cases hl : L 6 with
      | false => rfl
      | true => exact absurd (hcl 6 _ rfl (hl) ⟨5, .data⟩ (by simp [opsPar3]) rfl) (by rw [hLi]; decide))
    have hf3 : flagsOf par3C L 3 = false := (flagsOf_at (C := par3C) (j := 3) rfl L).trans (by
      cases hl : L 9 with
      | false => rfl
      | true => exact absurd (hcl 6 _ rfl (hcl 9 _ rfl (hl) ⟨6, .chain⟩ (by simp [opsPar3]) rfl) ⟨5, .data⟩ (by simp [opsPar3]) rfl) (by rw [hLi]; decide))
    have hf4 : flagsOf par3C L 4 = false := (flagsOf_at (C := par3C) (j := 4) rfl L).trans (by
      cases hl : L 12 with
      | false => rfl
      | true => exact absurd (hcl 6 _ rfl (hcl 9 _ rfl (hcl 12 _ rfl (hl) ⟨9, .chain⟩ (by simp [opsPar3]) rfl) ⟨6, .chain⟩ (by simp [opsPar3]) rfl) ⟨5, .data⟩ (by simp [opsPar3]) rfl) (by rw [hLi]; decide))
    have hf5 : flagsOf par3C L 5 = false := (flagsOf_at (C := par3C) (j := 5) rfl L).trans (by
      cases hl : L 15 with
      | false => rfl
      | true => exact absurd (hcl 6 _ rfl (hcl 9 _ rfl (hcl 12 _ rfl (hcl 15 _ rfl (hl) ⟨12, .chain⟩ (by simp [opsPar3]) rfl) ⟨9, .chain⟩ (by simp [opsPar3]) rfl) ⟨6, .chain⟩ (by simp [opsPar3]) rfl) ⟨5, .data⟩ (by simp [opsPar3]) rfl) (by rw [hLi]; decide))
    have hf6 : flagsOf par3C L 6 = false := (flagsOf_at (C := par3C) (j := 6) rfl L).trans (by
      cases hl : L 18 with
      | false => rfl
      | true => exact absurd (hcl 6 _ rfl (hcl 9 _ rfl (hcl 12 _ rfl (hcl 15 _ rfl (hcl 18 _ rfl (hl) ⟨15, .chain⟩ (by simp [opsPar3]) rfl) ⟨12, .chain⟩ (by simp [opsPar3]) rfl) ⟨9, .chain⟩ (by simp [opsPar3]) rfl) ⟨6, .chain⟩ (by simp [opsPar3]) rfl) ⟨5, .data⟩ (by simp [opsPar3]) rfl) (by rw [hLi]; decide))
    have hf7 : flagsOf par3C L 7 = false := (flagsOf_at (C := par3C) (j := 7) rfl L).trans (by
      cases hl : L 21 with
      | false => rfl
      | true => exact absurd (hcl 6 _ rfl (hcl 9 _ rfl (hcl 12 _ rfl (hcl 15 _ rfl (hcl 18 _ rfl (hcl 21 _ rfl (hl) ⟨18, .chain⟩ (by simp [opsPar3]) rfl) ⟨15, .chain⟩ (by simp [opsPar3]) rfl) ⟨12, .chain⟩ (by simp [opsPar3]) rfl) ⟨9, .chain⟩ (by simp [opsPar3]) rfl) ⟨6, .chain⟩ (by simp [opsPar3]) rfl) ⟨5, .data⟩ (by simp [opsPar3]) rfl) (by rw [hLi]; decide))
    have hf8 : flagsOf par3C L 8 = false := (flagsOf_at (C := par3C) (j := 8) rfl L).trans (by
      cases hl : L 25 with
      | false => rfl
      | true => exact absurd (hcl 6 _ rfl (hcl 9 _ rfl (hcl 12 _ rfl (hcl 15 _ rfl (hcl 18 _ rfl (hcl 21 _ rfl (hcl 25 _ rfl (hl) ⟨21, .chain⟩ (by simp [opsPar3]) rfl) ⟨18, .chain⟩ (by simp [opsPar3]) rfl) ⟨15, .chain⟩ (by simp [opsPar3]) rfl) ⟨12, .chain⟩ (by simp [opsPar3]) rfl) ⟨9, .chain⟩ (by simp [opsPar3]) rfl) ⟨6, .chain⟩ (by simp [opsPar3]) rfl) ⟨5, .data⟩ (by simp [opsPar3]) rfl) (by rw [hLi]; decide))
    have hf10 : flagsOf par3C L 10 = false := (flagsOf_at (C := par3C) (j := 10) rfl L).trans (by
      cases hl : L 29 with
      | false => rfl
      | true => exact absurd (hcl 29 _ rfl (hl) ⟨5, .phase⟩ (by simp [opsPar3]) rfl) (by rw [hLi]; decide))
    have hfin := hK (.string p2) w (hG.quiet 3 5 14 _ rfl (by kernel_rfl) (by kernel_rfl))
    have HK := Lib.hid hfin
    generalize (resOf par3C fun t => a.eval (.tmp t)) = R at *
    generalize flagsOf par3C L = f at *
    clear z1 z2 c0 c1 c2 c3 c4 c5 c6 c7 c8 c9 c10 hv hqp1 hqp3 hqp4 hqp5 hqp6 hqp7 hqp8
    clear hSp
    clear hG hcl hdep hfr hK hfin hLi 
    go_simp
    exact HK.out
  | 6, ho =>
    simp only [opsPar3, List.getElem?_toArray, List.getElem?_cons_succ, List.getElem?_cons_zero, Option.some.injEq] at ho
    subst ho
    have x14 : a.tmps[14]?.getD undef = .string p2 := by rw [← ev]; exact hG.val 3 5 14 _ rfl (hdep ⟨5, .data⟩ (by simp) rfl)
    rw [if_pos (show Region.wanted _ _ = true from rfl)]
    have hSj := hG.1
    have hf0 : flagsOf par3C L 0 = true := (flagsOf_at (C := par3C) (j := 0) rfl L).trans (hcl 3 _ rfl (hdep ⟨3, .chain⟩ (by simp) rfl) ⟨2, .data⟩ (by simp [opsPar3]) rfl)
    have hf1 : flagsOf par3C L 1 = true := (flagsOf_at (C := par3C) (j := 1) rfl L).trans (hdep ⟨3, .chain⟩ (by simp) rfl)
    have hf2 : flagsOf par3C L 2 = false := (flagsOf_at (C := par3C) (j := 2) rfl L).trans hLi
    have hf3 : flagsOf par3C L 3 = false := (flagsOf_at (C := par3C) (j := 3) rfl L).trans (by
      cases hl : L 9 with
      | false => rfl
      | true => exact absurd (hcl 9 _ rfl (hl) ⟨6, .chain⟩ (by simp [opsPar3]) rfl) (by rw [hLi]; decide))
    have hf4 : flagsOf par3C L 4 = false := (flagsOf_at (C := par3C) (j := 4) rfl L).trans (by
      cases hl : L 12 with
      | false => rfl
      | true => exact absurd (hcl 9 _ rfl (hcl 12 _ rfl (hl) ⟨9, .chain⟩ (by simp [opsPar3]) rfl) ⟨6, .chain⟩ (by simp [opsPar3]) rfl) (by rw [hLi]; decide))
    have hf5 : flagsOf par3C L 5 = false := (flagsOf_at (C := par3C) (j := 5) rfl L).trans (by
      cases hl : L 15 with
      | false => rfl
      | true => exact absurd (hcl 9 _ rfl (hcl 12 _ rfl (hcl 15 _ rfl (hl) ⟨12, .chain⟩ (by simp [opsPar3]) rfl) ⟨9, .chain⟩ (by simp [opsPar3]) rfl) ⟨6, .chain⟩ (by simp [opsPar3]) rfl) (by rw [hLi]; decide))
    have hf6 : flagsOf par3C L 6 = false := (flagsOf_at (C := par3C) (j := 6) rfl L).trans (by
      cases hl : L 18 with
      | false => rfl
      | true => exact absurd (hcl 9 _ rfl (hcl 12 _ rfl (hcl 15 _ rfl (hcl 18 _ rfl (hl) ⟨15, .chain⟩ (by simp [opsPar3]) rfl) ⟨12, .chain⟩ (by simp [opsPar3]) rfl) ⟨9, .chain⟩ (by simp [opsPar3]) rfl) ⟨6, .chain⟩ (by simp [opsPar3]) rfl) (by rw [hLi]; decide))
    have hf7 : flagsOf par3C L 7 = false := (flagsOf_at (C := par3C) (j := 7) rfl L).trans (by
      cases hl : L 21 with
      | false => rfl
      | true => exact absurd (hcl 9 _ rfl (hcl 12 _ rfl (hcl 15 _ rfl (hcl 18 _ rfl (hcl 21 _ rfl (hl) ⟨18, .chain⟩ (by simp [opsPar3]) rfl) ⟨15, .chain⟩ (by simp [opsPar3]) rfl) ⟨12, .chain⟩ (by simp [opsPar3]) rfl) ⟨9, .chain⟩ (by simp [opsPar3]) rfl) ⟨6, .chain⟩ (by simp [opsPar3]) rfl) (by rw [hLi]; decide))
    have hf8 : flagsOf par3C L 8 = false := (flagsOf_at (C := par3C) (j := 8) rfl L).trans (by
      cases hl : L 25 with
      | false => rfl
      | true => exact absurd (hcl 9 _ rfl (hcl 12 _ rfl (hcl 15 _ rfl (hcl 18 _ rfl (hcl 21 _ rfl (hcl 25 _ rfl (hl) ⟨21, .chain⟩ (by simp [opsPar3]) rfl) ⟨18, .chain⟩ (by simp [opsPar3]) rfl) ⟨15, .chain⟩ (by simp [opsPar3]) rfl) ⟨12, .chain⟩ (by simp [opsPar3]) rfl) ⟨9, .chain⟩ (by simp [opsPar3]) rfl) ⟨6, .chain⟩ (by simp [opsPar3]) rfl) (by rw [hLi]; decide))
    have hf10 : flagsOf par3C L 10 = false := (flagsOf_at (C := par3C) (j := 10) rfl L).trans (by
      cases hl : L 29 with
      | false => rfl
      | true => exact absurd (hcl 29 _ rfl (hl) ⟨6, .phase⟩ (by simp [opsPar3]) rfl) (by rw [hLi]; decide))
    have hfin := fun v w' hs => hK v w' (hG.call 2 (6, 15) rfl (by kernel_rfl) v w' hs)
    have HK := Lib.hid hfin
    generalize (resOf par3C fun t => a.eval (.tmp t)) = R at *
    generalize flagsOf par3C L = f at *
    clear hG hcl hdep hfr hK hfin hLi
    have hc := Lib.hid (c2 _ _ _ hSj hf2)
    clear hSj hsz z1 z2 c0 c1 c2 c3 c4 c5 c6 c7 c8 c9 c10 hv hqp1 hqp2 hqp3 hqp4 hqp5 hqp6 hqp7 hqp8
    go_simp
    go_at_call 25
    refine hc.out.mono ?_
    rintro e w' ⟨v, rfl, hs⟩
    exact HK.out v w' hs
  | 7, ho =>
    simp only [opsPar3, List.getElem?_toArray, List.getElem?_cons_succ, List.getElem?_cons_zero, Option.some.injEq] at ho
    subst ho
    rw [if_pos (show Region.wanted _ _ = true from rfl)]
    have hSp := hG.1
    have hf3 : flagsOf par3C L 3 = false := (flagsOf_at (C := par3C) (j := 3) rfl L).trans (by
      cases hl : L 9 with
      | false => rfl
      | true => exact absurd (hcl 8 _ rfl (hcl 9 _ rfl (hl) ⟨8, .data⟩ (by simp [opsPar3]) rfl) ⟨7, .data⟩ (by simp [opsPar3]) rfl) (by rw [hLi]; decide))
    have hf4 : flagsOf par3C L 4 = false := (flagsOf_at (C := par3C) (j := 4) rfl L).trans (by
      cases hl : L 12 with
      | false => rfl
      | true => exact absurd (hcl 8 _ rfl (hcl 9 _ rfl (hcl 12 _ rfl (hl) ⟨9, .chain⟩ (by simp [opsPar3]) rfl) ⟨8, .data⟩ (by simp [opsPar3]) rfl) ⟨7, .data⟩ (by simp [opsPar3]) rfl) (by rw [hLi]; decide))
    have hf5 : flagsOf par3C L 5 = false := (flagsOf_at (C := par3C) (j := 5) rfl L).trans (by
      cases hl : L 15 with
      | false => rfl
      | true => exact absurd (hcl 8 _ rfl (hcl 9 _ rfl (hcl 12 _ rfl (hcl 15 _ rfl (hl) ⟨12, .chain⟩ (by simp [opsPar3]) rfl) ⟨9, .chain⟩ (by simp [opsPar3]) rfl) ⟨8, .data⟩ (by simp [opsPar3]) rfl) ⟨7, .data⟩ (by simp [opsPar3]) rfl) (by rw [hLi]; decide))
    have hf6 : flagsOf par3C L 6 = false := (flagsOf_at (C := par3C) (j := 6) rfl L).trans (by
      cases hl : L 18 with
      | false => rfl
      | true => exact absurd (hcl 8 _ rfl (hcl 9 _ rfl (hcl 12 _ rfl (hcl 15 _ rfl (hcl 18 _ rfl (hl) ⟨15, .chain⟩ (by simp [opsPar3]) rfl) ⟨12, .chain⟩ (by simp [opsPar3]) rfl) ⟨9, .chain⟩ (by simp [opsPar3]) rfl) ⟨8, .data⟩ (by simp [opsPar3]) rfl) ⟨7, .data⟩ (by simp [opsPar3]) rfl) (by rw [hLi]; decide))
    have hf7 : flagsOf par3C L 7 = false := (flagsOf_at (C := par3C) (j := 7) rfl L).trans (by
      cases hl : L 21 with
      | false => rfl
      | true => exact absurd (hcl 8 _ rfl (hcl 9 _ rfl (hcl 12 _ rfl (hcl 15 _ rfl (hcl 18 _ rfl (hcl 21 _ rfl (hl) ⟨18, .chain⟩ (by simp [opsPar3]) rfl) ⟨15, .chain⟩ (by simp [opsPar3]) rfl) ⟨12, .chain⟩ (by simp [opsPar3]) rfl) ⟨9, .chain⟩ (by simp [opsPar3]) rfl) ⟨8, .data⟩ (by simp [opsPar3]) rfl) ⟨7, .data⟩ (by simp [opsPar3]) rfl) (by rw [hLi]; decide))
    have hf8 : flagsOf par3C L 8 = false := (flagsOf_at (C := par3C) (j := 8) rfl L).trans (by
      cases hl : L 25 with
      | false => rfl
      | true => exact absurd (hcl 8 _ rfl (hcl 9 _ rfl (hcl 12 _ rfl (hcl 15 _ rfl (hcl 18 _ rfl (hcl 21 _ rfl (hcl 25 _ rfl (hl) ⟨21, .chain⟩ (by simp [opsPar3]) rfl) ⟨18, .chain⟩ (by simp [opsPar3]) rfl) ⟨15, .chain⟩ (by simp [opsPar3]) rfl) ⟨12, .chain⟩ (by simp [opsPar3]) rfl) ⟨9, .chain⟩ (by simp [opsPar3]) rfl) ⟨8, .data⟩ (by simp [opsPar3]) rfl) ⟨7, .data⟩ (by simp [opsPar3]) rfl) (by rw [hLi]; decide))
    have hf10 : flagsOf par3C L 10 = false := (flagsOf_at (C := par3C) (j := 10) rfl L).trans (by
      cases hl : L 29 with
      | false => rfl
      | true => exact absurd (hcl 29 _ rfl (hl) ⟨7, .phase⟩ (by simp [opsPar3]) rfl) (by rw [hLi]; decide))
    have hfin := hK (.string s) w (hG.quiet 4 7 16 _ rfl (by kernel_rfl) (by kernel_rfl))
    have HK := Lib.hid hfin
    generalize (resOf par3C fun t => a.eval (.tmp t)) = R at *
    generalize flagsOf par3C L = f at *
    clear hsz z1 z2 c0 c1 c2 c3 c4 c5 c6 c7 c8 c9 c10 hv hqp1 hqp2 hqp3 hqp4 hqp5 hqp6 hqp7 hqp8
    clear hSp
    clear hG hcl hdep hfr hK hfin hLi 
    go_simp
    exact HK.out
  | 8, ho =>
    simp only [opsPar3, List.getElem?_toArray, List.getElem?_cons_succ, List.getElem?_cons_zero, Option.some.injEq] at ho
    subst ho
    have x16 : a.tmps[16]?.getD undef = .string s := by rw [← ev]; exact hG.val 4 7 16 _ rfl (hdep ⟨7, .data⟩ (by simp) rfl)
    rw [if_pos (show Region.wanted _ _ = true from rfl)]
    have hSp := hG.1
    have hf3 : flagsOf par3C L 3 = false := (flagsOf_at (C := par3C) (j := 3) rfl L).trans (by
      cases hl : L 9 with
      | false => rfl
      | true => exact absurd (hcl 9 _ rfl (hl) ⟨8, .data⟩ (by simp [opsPar3]) rfl) (by rw [hLi]; decide))
    have hf4 : flagsOf par3C L 4 = false := (flagsOf_at (C := par3C) (j := 4) rfl L).trans (by
      cases hl : L 12 with
      | false => rfl
      | true => exact absurd (hcl 9 _ rfl (hcl 12 _ rfl (hl) ⟨9, .chain⟩ (by simp [opsPar3]) rfl) ⟨8, .data⟩ (by simp [opsPar3]) rfl) (by rw [hLi]; decide))
    have hf5 : flagsOf par3C L 5 = false := (flagsOf_at (C := par3C) (j := 5) rfl L).trans (by
      cases hl : L 15 with
      | false => rfl
      | true => exact absurd (hcl 9 _ rfl (hcl 12 _ rfl (hcl 15 _ rfl (hl) ⟨12, .chain⟩ (by simp [opsPar3]) rfl) ⟨9, .chain⟩ (by simp [opsPar3]) rfl) ⟨8, .data⟩ (by simp [opsPar3]) rfl) (by rw [hLi]; decide))
    have hf6 : flagsOf par3C L 6 = false := (flagsOf_at (C := par3C) (j := 6) rfl L).trans (by
      cases hl : L 18 with
      | false => rfl
      | true => exact absurd (hcl 9 _ rfl (hcl 12 _ rfl (hcl 15 _ rfl (hcl 18 _ rfl (hl) ⟨15, .chain⟩ (by simp [opsPar3]) rfl) ⟨12, .chain⟩ (by simp [opsPar3]) rfl) ⟨9, .chain⟩ (by simp [opsPar3]) rfl) ⟨8, .data⟩ (by simp [opsPar3]) rfl) (by rw [hLi]; decide))
    have hf7 : flagsOf par3C L 7 = false := (flagsOf_at (C := par3C) (j := 7) rfl L).trans (by
      cases hl : L 21 with
      | false => rfl
      | true => exact absurd (hcl 9 _ rfl (hcl 12 _ rfl (hcl 15 _ rfl (hcl 18 _ rfl (hcl 21 _ rfl (hl) ⟨18, .chain⟩ (by simp [opsPar3]) rfl) ⟨15, .chain⟩ (by simp [opsPar3]) rfl) ⟨12, .chain⟩ (by simp [opsPar3]) rfl) ⟨9, .chain⟩ (by simp [opsPar3]) rfl) ⟨8, .data⟩ (by simp [opsPar3]) rfl) (by rw [hLi]; decide))
    have hf8 : flagsOf par3C L 8 = false := (flagsOf_at (C := par3C) (j := 8) rfl L).trans (by
      cases hl : L 25 with
      | false => rfl
      | true => exact absurd (hcl 9 _ rfl (hcl 12 _ rfl (hcl 15 _ rfl (hcl 18 _ rfl (hcl 21 _ rfl (hcl 25 _ rfl (hl) ⟨21, .chain⟩ (by simp [opsPar3]) rfl) ⟨18, .chain⟩ (by simp [opsPar3]) rfl) ⟨15, .chain⟩ (by simp [opsPar3]) rfl) ⟨12, .chain⟩ (by simp [opsPar3]) rfl) ⟨9, .chain⟩ (by simp [opsPar3]) rfl) ⟨8, .data⟩ (by simp [opsPar3]) rfl) (by rw [hLi]; decide))
    have hf10 : flagsOf par3C L 10 = false := (flagsOf_at (C := par3C) (j := 10) rfl L).trans (by
      cases hl : L 29 with
      | false => rfl
      | true => exact absurd (hcl 29 _ rfl (hl) ⟨8, .phase⟩ (by simp [opsPar3]) rfl) (by rw [hLi]; decide))
    have hfin := hK (.string p3) w (hG.quiet 5 8 17 _ rfl (by kernel_rfl) (by kernel_rfl))
    have HK := Lib.hid hfin
    generalize (resOf par3C fun t => a.eval (.tmp t)) = R at *
    generalize flagsOf par3C L = f at *
    clear z1 z2 c0 c1 c2 c3 c4 c5 c6 c7 c8 c9 c10 hv hqp1 hqp2 hqp4 hqp5 hqp6 hqp7 hqp8
    clear hSp
    clear hG hcl hdep hfr hK hfin hLi 
    go_simp
    exact HK.out
  | 9, ho =>
    simp only [opsPar3, List.getElem?_toArray, List.getElem?_cons_succ, List.getElem?_cons_zero, Option.some.injEq] at ho
    subst ho
    have x17 : a.tmps[17]?.getD undef = .string p3 := by rw [← ev]; exact hG.val 5 8 17 _ rfl (hdep ⟨8, .data⟩ (by simp) rfl)
    rw [if_pos (show Region.wanted _ _ = true from rfl)]
    have hSj := hG.1
    have hf0 : flagsOf par3C L 0 = true := (flagsOf_at (C := par3C) (j := 0) rfl L).trans (hcl 3 _ rfl (hcl 6 _ rfl (hdep ⟨6, .chain⟩ (by simp) rfl) ⟨3, .chain⟩ (by simp [opsPar3]) rfl) ⟨2, .data⟩ (by simp [opsPar3]) rfl)
    have hf1 : flagsOf par3C L 1 = true := (flagsOf_at (C := par3C) (j := 1) rfl L).trans (hcl 6 _ rfl (hdep ⟨6, .chain⟩ (by simp) rfl) ⟨3, .chain⟩ (by simp [opsPar3]) rfl)
    have hf2 : flagsOf par3C L 2 = true := (flagsOf_at (C := par3C) (j := 2) rfl L).trans (hdep ⟨6, .chain⟩ (by simp) rfl)
    have hf3 : flagsOf par3C L 3 = false := (flagsOf_at (C := par3C) (j := 3) rfl L).trans hLi
    have hf4 : flagsOf par3C L 4 = false := (flagsOf_at (C := par3C) (j := 4) rfl L).trans (by
      cases hl : L 12 with
      | false => rfl
      | true => exact absurd (hcl 12 _ rfl (hl) ⟨9, .chain⟩ (by simp [opsPar3]) rfl) (by rw [hLi]; decide))
    have hf5 : flagsOf par3C L 5 = false := (flagsOf_at (C := par3C) (j := 5) rfl L).trans (by
      cases hl : L 15 with
      | false => rfl
      | true => exact absurd (hcl 12 _ rfl (hcl 15 _ rfl (hl) ⟨12, .chain⟩ (by simp [opsPar3]) rfl) ⟨9, .chain⟩ (by simp [opsPar3]) rfl) (by rw [hLi]; decide))
    have hf6 : flagsOf par3C L 6 = false := (flagsOf_at (C := par3C) (j := 6) rfl L).trans (by
      cases hl : L 18 with
      | false => rfl
      | true => exact absurd (hcl 12 _ rfl (hcl 15 _ rfl (hcl 18 _ rfl (hl) ⟨15, .chain⟩ (by simp [opsPar3]) rfl) ⟨12, .chain⟩ (by simp [opsPar3]) rfl) ⟨9, .chain⟩ (by simp [opsPar3]) rfl) (by rw [hLi]; decide))
    have hf7 : flagsOf par3C L 7 = false := (flagsOf_at (C := par3C) (j := 7) rfl L).trans (by
      cases hl : L 21 with
      | false => rfl
      | true => exact absurd (hcl 12 _ rfl (hcl 15 _ rfl (hcl 18 _ rfl (hcl 21 _ rfl (hl) ⟨18, .chain⟩ (by simp [opsPar3]) rfl) ⟨15, .chain⟩ (by simp [opsPar3]) rfl) ⟨12, .chain⟩ (by simp [opsPar3]) rfl) ⟨9, .chain⟩ (by simp [opsPar3]) rfl) (by rw [hLi]; decide))
    have hf8 : flagsOf par3C L 8 = false := (flagsOf_at (C := par3C) (j := 8) rfl L).trans (by
      cases hl : L 25 with
      | false => rfl
      | true => exact absurd (hcl 12 _ rfl (hcl 15 _ rfl (hcl 18 _ rfl (hcl 21 _ rfl (hcl 25 _ rfl (hl) ⟨21, .chain⟩ (by simp [opsPar3]) rfl) ⟨18, .chain⟩ (by simp [opsPar3]) rfl) ⟨15, .chain⟩ (by simp [opsPar3]) rfl) ⟨12, .chain⟩ (by simp [opsPar3]) rfl) ⟨9, .chain⟩ (by simp [opsPar3]) rfl) (by rw [hLi]; decide))
    have hf10 : flagsOf par3C L 10 = false := (flagsOf_at (C := par3C) (j := 10) rfl L).trans (by
      cases hl : L 29 with
      | false => rfl
      | true => exact absurd (hcl 29 _ rfl (hl) ⟨9, .phase⟩ (by simp [opsPar3]) rfl) (by rw [hLi]; decide))
    have hfin := fun v w' hs => hK v w' (hG.call 3 (9, 18) rfl (by kernel_rfl) v w' hs)
    have HK := Lib.hid hfin
    generalize (resOf par3C fun t => a.eval (.tmp t)) = R at *
    generalize flagsOf par3C L = f at *
    clear hG hcl hdep hfr hK hfin hLi
    have hc := Lib.hid (c3 _ _ _ hSj hf3)
    clear hSj hsz z1 z2 c0 c1 c2 c3 c4 c5 c6 c7 c8 c9 c10 hv hqp1 hqp2 hqp3 hqp4 hqp5 hqp6 hqp7 hqp8
    go_simp
    go_at_call 23
    refine hc.out.mono ?_
    rintro e w' ⟨v, rfl, hs⟩
    exact HK.out v w' hs
  | 10, ho =>
    simp only [opsPar3, List.getElem?_toArray, List.getElem?_cons_succ, List.getElem?_cons_zero, Option.some.injEq] at ho
    subst ho
    rw [if_pos (show Region.wanted _ _ = true from rfl)]
    have hSp := hG.1
    have hf4 : flagsOf par3C L 4 = false := (flagsOf_at (C := par3C) (j := 4) rfl L).trans (by
      cases hl : L 12 with
      | false => rfl
      | true => exact absurd (hcl 11 _ rfl (hcl 12 _ rfl (hl) ⟨11, .data⟩ (by simp [opsPar3]) rfl) ⟨10, .data⟩ (by simp [opsPar3]) rfl) (by rw [hLi]; decide))
    have hf5 : flagsOf par3C L 5 = false := (flagsOf_at (C := par3C) (j := 5) rfl L).trans (by
      cases hl : L 15 with
      | false => rfl
      | true => exact absurd (hcl 11 _ rfl (hcl 12 _ rfl (hcl 15 _ rfl (hl) ⟨12, .chain⟩ (by simp [opsPar3]) rfl) ⟨11, .data⟩ (by simp [opsPar3]) rfl) ⟨10, .data⟩ (by simp [opsPar3]) rfl) (by rw [hLi]; decide))
    have hf6 : flagsOf par3C L 6 = false := (flagsOf_at (C := par3C) (j := 6) rfl L).trans (by
      cases hl : L 18 with
      | false => rfl
      | true => exact absurd (hcl 11 _ rfl (hcl 12 _ rfl (hcl 15 _ rfl (hcl 18 _ rfl (hl) ⟨15, .chain⟩ (by simp [opsPar3]) rfl) ⟨12, .chain⟩ (by simp [opsPar3]) rfl) ⟨11, .data⟩ (by simp [opsPar3]) rfl) ⟨10, .data⟩ (by simp [opsPar3]) rfl) (by rw [hLi]; decide))
    have hf7 : flagsOf par3C L 7 = false := (flagsOf_at (C := par3C) (j := 7) rfl L).trans (by
      cases hl : L 21 with
      | false => rfl
      | true => exact absurd (hcl 11 _ rfl (hcl 12 _ rfl (hcl 15 _ rfl (hcl 18 _ rfl (hcl 21 _ rfl (hl) ⟨18, .chain⟩ (by simp [opsPar3]) rfl) ⟨15, .chain⟩ (by simp [opsPar3]) rfl) ⟨12, .chain⟩ (by simp [opsPar3]) rfl) ⟨11, .data⟩ (by simp [opsPar3]) rfl) ⟨10, .data⟩ (by simp [opsPar3]) rfl) (by rw [hLi]; decide))
    have hf8 : flagsOf par3C L 8 = false := (flagsOf_at (C := par3C) (j := 8) rfl L).trans (by
      cases hl : L 25 with
      | false => rfl
      | true => exact absurd (hcl 11 _ rfl (hcl 12 _ rfl (hcl 15 _ rfl (hcl 18 _ rfl (hcl 21 _ rfl (hcl 25 _ rfl (hl) ⟨21, .chain⟩ (by simp [opsPar3]) rfl) ⟨18, .chain⟩ (by simp [opsPar3]) rfl) ⟨15, .chain⟩ (by simp [opsPar3]) rfl) ⟨12, .chain⟩ (by simp [opsPar3]) rfl) ⟨11, .data⟩ (by simp [opsPar3]) rfl) ⟨10, .data⟩ (by simp [opsPar3]) rfl) (by rw [hLi]; decide))
    have hf10 : flagsOf par3C L 10 = false := (flagsOf_at (C := par3C) (j := 10) rfl L).trans (by
      cases hl : L 29 with
      | false => rfl
      | true => exact absurd (hcl 29 _ rfl (hl) ⟨10, .phase⟩ (by simp [opsPar3]) rfl) (by rw [hLi]; decide))
    have hfin := hK (.string s) w (hG.quiet 6 10 19 _ rfl (by kernel_rfl) (by kernel_rfl))
    have HK := Lib.hid hfin
    generalize (resOf par3C fun t => a.eval (.tmp t)) = R at *
    generalize flagsOf par3C L = f at *
    clear hsz z1 z2 c0 c1 c2 c3 c4 c5 c6 c7 c8 c9 c10 hv hqp1 hqp2 hqp3 hqp4 hqp5 hqp6 hqp7 hqp8
    clear hSp
    clear hG hcl hdep hfr hK hfin hLi 
    go_simp
    exact HK.out
  | 11, ho =>
    simp only [opsPar3, List.getElem?_toArray, List.getElem?_cons_succ, List.getElem?_cons_zero, Option.some.injEq] at ho
    subst ho
    have x19 : a.tmps[19]?.getD undef = .string s := by rw [← ev]; exact hG.val 6 10 19 _ rfl (hdep ⟨10, .data⟩ (by simp) rfl)
    rw [if_pos (show Region.wanted _ _ = true from rfl)]
    have hSp := hG.1
    have hf4 : flagsOf par3C L 4 = false := (flagsOf_at (C := par3C) (j := 4) rfl L).trans (by
      cases hl : L 12 with
      | false => rfl
      | true => exact absurd (hcl 12 _ rfl (hl) ⟨11, .data⟩ (by simp [opsPar3]) rfl) (by rw [hLi]; decide))
    have hf5 : flagsOf par3C L 5 = false := (flagsOf_at (C := par3C) (j := 5) rfl L).trans (by
      cases hl : L 15 with
      | false => rfl
      | true => exact absurd (hcl 12 _ rfl (hcl 15 _ rfl (hl) ⟨12, .chain⟩ (by simp [opsPar3]) rfl) ⟨11, .data⟩ (by simp [opsPar3]) rfl) (by rw [hLi]; decide))
    have hf6 : flagsOf par3C L 6 = false := (flagsOf_at (C := par3C) (j := 6) rfl L).trans (by
      cases hl : L 18 with
      | false => rfl
      | true => exact absurd (hcl 12 _ rfl (hcl 15 _ rfl (hcl 18 _ rfl (hl) ⟨15, .chain⟩ (by simp [opsPar3]) rfl) ⟨12, .chain⟩ (by simp [opsPar3]) rfl) ⟨11, .data⟩ (by simp [opsPar3]) rfl) (by rw [hLi]; decide))
    have hf7 : flagsOf par3C L 7 = false := (flagsOf_at (C := par3C) (j := 7) rfl L).trans (by
      cases hl : L 21 with
      | false => rfl
      | true => exact absurd (hcl 12 _ rfl (hcl 15 _ rfl (hcl 18 _ rfl (hcl 21 _ rfl (hl) ⟨18, .chain⟩ (by simp [opsPar3]) rfl) ⟨15, .chain⟩ (by simp [opsPar3]) rfl) ⟨12, .chain⟩ (by simp [opsPar3]) rfl) ⟨11, .data⟩ (by simp [opsPar3]) rfl) (by rw [hLi]; decide))
    have hf8 : flagsOf par3C L 8 = false := (flagsOf_at (C := par3C) (j := 8) rfl L).trans (by
      cases hl : L 25 with
      | false => rfl
      | true => exact absurd (hcl 12 _ rfl (hcl 15 _ rfl (hcl 18 _ rfl (hcl 21 _ rfl (hcl 25 _ rfl (hl) ⟨21, .chain⟩ (by simp [opsPar3]) rfl) ⟨18, .chain⟩ (by simp [opsPar3]) rfl) ⟨15, .chain⟩ (by simp [opsPar3]) rfl) ⟨12, .chain⟩ (by simp [opsPar3]) rfl) ⟨11, .data⟩ (by simp [opsPar3]) rfl) (by rw [hLi]; decide))
    have hf10 : flagsOf par3C L 10 = false := (flagsOf_at (C := par3C) (j := 10) rfl L).trans (by
      cases hl : L 29 with
      | false => rfl
      | true => exact absurd (hcl 29 _ rfl (hl) ⟨11, .phase⟩ (by simp [opsPar3]) rfl) (by rw [hLi]; decide))
    have hfin := hK (.string p4) w (hG.quiet 7 11 20 _ rfl (by kernel_rfl) (by kernel_rfl))
    have HK := Lib.hid hfin
    generalize (resOf par3C fun t => a.eval (.tmp t)) = R at *
    generalize flagsOf par3C L = f at *
    clear z1 z2 c0 c1 c2 c3 c4 c5 c6 c7 c8 c9 c10 hv hqp1 hqp2 hqp3 hqp5 hqp6 hqp7 hqp8
    clear hSp
    clear hG hcl hdep hfr hK hfin hLi 
    go_simp
    exact HK.out
  | 12, ho =>
    simp only [opsPar3, List.getElem?_toArray, List.getElem?_cons_succ, List.getElem?_cons_zero, Option.some.injEq] at ho
    subst ho
    have x20 : a.tmps[20]?.getD undef = .string p4 := by rw [← ev]; exact hG.val 7 11 20 _ rfl (hdep ⟨11, .data⟩ (by simp) rfl)
    rw [if_pos (show Region.wanted _ _ = true from rfl)]
    have hSj := hG.1
    have hf0 : flagsOf par3C L 0 = true := (flagsOf_at (C := par3C) (j := 0) rfl L).trans (hcl 3 _ rfl (hcl 6 _ rfl (hcl 9 _ rfl (hdep ⟨9, .chain⟩ (by simp) rfl) ⟨6, .chain⟩ (by simp [opsPar3]) rfl) ⟨3, .chain⟩ (by simp [opsPar3]) rfl) ⟨2, .data⟩ (by simp [opsPar3]) rfl)
    have hf1 : flagsOf par3C L 1 = true := (flagsOf_at (C := par3C) (j := 1) rfl L).trans (hcl 6 _ rfl (hcl 9 _ rfl (hdep ⟨9, .chain⟩ (by simp) rfl) ⟨6, .chain⟩ (by simp [opsPar3]) rfl) ⟨3, .chain⟩ (by simp [opsPar3]) rfl)
    have hf2 : flagsOf par3C L 2 = true := (flagsOf_at (C := par3C) (j := 2) rfl L).trans (hcl 9 _ rfl (hdep ⟨9, .chain⟩ (by simp) rfl) ⟨6, .chain⟩ (by simp [opsPar3]) rfl)
    have hf3 : flagsOf par3C L 3 = true := (flagsOf_at (C := par3C) (j := 3) rfl L).trans (hdep ⟨9, .chain⟩ (by simp) rfl)
    have hf4 : flagsOf par3C L 4 = false := (flagsOf_at (C := par3C) (j := 4) rfl L).trans hLi
    have hf5 : flagsOf par3C L 5 = false := (flagsOf_at (C := par3C) (j := 5) rfl L).trans (by
      cases hl : L 15 with
      | false => rfl
      | true => exact absurd (hcl 15 _ rfl (hl) ⟨12, .chain⟩ (by simp [opsPar3]) rfl) (by rw [hLi]; decide))
    have hf6 : flagsOf par3C L 6 = false := (flagsOf_at (C := par3C) (j := 6) rfl L).trans (by
      cases hl : L 18 with
      | false => rfl
      | true => exact absurd (hcl 15 _ rfl (hcl 18 _ rfl (hl) ⟨15, .chain⟩ (by simp [opsPar3]) rfl) ⟨12, .chain⟩ (by simp [opsPar3]) rfl) (by rw [hLi]; decide))
    have hf7 : flagsOf par3C L 7 = false := (flagsOf_at (C := par3C) (j := 7) rfl L).trans (by
      cases hl : L 21 with
      | false => rfl
      | true => exact absurd (hcl 15 _ rfl (hcl 18 _ rfl (hcl 21 _ rfl (hl) ⟨18, .chain⟩ (by simp [opsPar3]) rfl) ⟨15, .chain⟩ (by simp [opsPar3]) rfl) ⟨12, .chain⟩ (by simp [opsPar3]) rfl) (by rw [hLi]; decide))
    have hf8 : flagsOf par3C L 8 = false := (flagsOf_at (C := par3C) (j := 8) rfl L).trans (by
      cases hl : L 25 with
      | false => rfl
      | true => exact absurd (hcl 15 _ rfl (hcl 18 _ rfl (hcl 21 _ rfl (hcl 25 _ rfl (hl) ⟨21, .chain⟩ (by simp [opsPar3]) rfl) ⟨18, .chain⟩ (by simp [opsPar3]) rfl) ⟨15, .chain⟩ (by simp [opsPar3]) rfl) ⟨12, .chain⟩ (by simp [opsPar3]) rfl) (by rw [hLi]; decide))
    have hf10 : flagsOf par3C L 10 = false := (flagsOf_at (C := par3C) (j := 10) rfl L).trans (by
      cases hl : L 29 with
      | false => rfl
      | true => exact absurd (hcl 29 _ rfl (hl) ⟨12, .phase⟩ (by simp [opsPar3]) rfl) (by rw [hLi]; decide))
    have hfin := fun v w' hs => hK v w' (hG.call 4 (12, 21) rfl (by kernel_rfl) v w' hs)
    have HK := Lib.hid hfin
    generalize (resOf par3C fun t => a.eval (.tmp t)) = R at *
    generalize flagsOf par3C L = f at *
    clear hG hcl hdep hfr hK hfin hLi
    have hc := Lib.hid (c4 _ _ _ hSj hf4)
    clear hSj hsz z1 z2 c0 c1 c2 c3 c4 c5 c6 c7 c8 c9 c10 hv hqp1 hqp2 hqp3 hqp4 hqp5 hqp6 hqp7 hqp8
    go_simp
    go_at_call 23
    refine hc.out.mono ?_
    rintro e w' ⟨v, rfl, hs⟩
    exact HK.out v w' hs
  | 13, ho =>
    simp only [opsPar3, List.getElem?_toArray, List.getElem?_cons_succ, List.getElem?_cons_zero, Option.some.injEq] at ho
    subst ho
    rw [if_pos (show Region.wanted _ _ = true from rfl)]
    have hSp := hG.1
    have hf5 : flagsOf par3C L 5 = false := (flagsOf_at (C := par3C) (j := 5) rfl L).trans (by
      cases hl : L 15 with
      | false => rfl
      | true => exact absurd (hcl 14 _ rfl (hcl 15 _ rfl (hl) ⟨14, .data⟩ (by simp [opsPar3]) rfl) ⟨13, .data⟩ (by simp [opsPar3]) rfl) (by rw [hLi]; decide))
    have hf6 : flagsOf par3C L 6 = false := (flagsOf_at (C := par3C) (j := 6) rfl L).trans (by
      cases hl : L 18 with
      | false => rfl
      | true => exact absurd (hcl 14 _ rfl (hcl 15 _ rfl (hcl 18 _ rfl (hl) ⟨15, .chain⟩ (by simp [opsPar3]) rfl) ⟨14, .data⟩ (by simp [opsPar3]) rfl) ⟨13, .data⟩ (by simp [opsPar3]) rfl) (by rw [hLi]; decide))
    have hf7 : flagsOf par3C L 7 = false := (flagsOf_at (C := par3C) (j := 7) rfl L).trans (by
      cases hl : L 21 with
      | false => rfl
      | true => exact absurd (hcl 14 _ rfl (hcl 15 _ rfl (hcl 18 _ rfl (hcl 21 _ rfl (hl) ⟨18, .chain⟩ (by simp [opsPar3]) rfl) ⟨15, .chain⟩ (by simp [opsPar3]) rfl) ⟨14, .data⟩ (by simp [opsPar3]) rfl) ⟨13, .data⟩ (by simp [opsPar3]) rfl) (by rw [hLi]; decide))
    have hf8 : flagsOf par3C L 8 = false := (flagsOf_at (C := par3C) (j := 8) rfl L).trans (by
      cases hl : L 25 with
      | false => rfl
      | true => exact absurd (hcl 14 _ rfl (hcl 15 _ rfl (hcl 18 _ rfl (hcl 21 _ rfl (hcl 25 _ rfl (hl) ⟨21, .chain⟩ (by simp [opsPar3]) rfl) ⟨18, .chain⟩ (by simp [opsPar3]) rfl) ⟨15, .chain⟩ (by simp [opsPar3]) rfl) ⟨14, .data⟩ (by simp [opsPar3]) rfl) ⟨13, .data⟩ (by simp [opsPar3]) rfl) (by rw [hLi]; decide))
    have hf10 : flagsOf par3C L 10 = false := (flagsOf_at (C := par3C) (j := 10) rfl L).trans (by
      cases hl : L 29 with
      | false => rfl
      | true => exact absurd (hcl 29 _ rfl (hl) ⟨13, .phase⟩ (by simp [opsPar3]) rfl) (by rw [hLi]; decide))
    have hfin := hK (.string s) w (hG.quiet 8 13 22 _ rfl (by kernel_rfl) (by kernel_rfl))
    have HK := Lib.hid hfin
    generalize (resOf par3C fun t => a.eval (.tmp t)) = R at *
    generalize flagsOf par3C L = f at *
    clear hsz z1 z2 c0 c1 c2 c3 c4 c5 c6 c7 c8 c9 c10 hv hqp1 hqp2 hqp3 hqp4 hqp5 hqp6 hqp7 hqp8
    clear hSp
    clear hG hcl hdep hfr hK hfin hLi 
    go_simp
    exact HK.out
  | 14, ho =>
    simp only [opsPar3, List.getElem?_toArray, List.getElem?_cons_succ, List.getElem?_cons_zero, Option.some.injEq] at ho
    subst ho
    have x22 : a.tmps[22]?.getD undef = .string s := by rw [← ev]; exact hG.val 8 13 22 _ rfl (hdep ⟨13, .data⟩ (by simp) rfl)
    rw [if_pos (show Region.wanted _ _ = true from rfl)]
    have hSp := hG.1
    have hf5 : flagsOf par3C L 5 = false := (flagsOf_at (C := par3C) (j := 5) rfl L).trans (by
      cases hl : L 15 with
      | false => rfl
      | true => exact absurd (hcl 15 _ rfl (hl) ⟨14, .data⟩ (by simp [opsPar3]) rfl) (by rw [hLi]; decide))
    have hf6 : flagsOf par3C L 6 = false := (flagsOf_at (C := par3C) (j := 6) rfl L).trans (by
      cases hl : L 18 with
      | false => rfl
      | true => exact absurd (hcl 15 _ rfl (hcl 18 _ rfl (hl) ⟨15, .chain⟩ (by simp [opsPar3]) rfl) ⟨14, .data⟩ (by simp [opsPar3]) rfl) (by rw [hLi]; decide))
    have hf7 : flagsOf par3C L 7 = false := (flagsOf_at (C := par3C) (j := 7) rfl L).trans (by
      cases hl : L 21 with
      | false => rfl
      | true => exact absurd (hcl 15 _ rfl (hcl 18 _ rfl (hcl 21 _ rfl (hl) ⟨18, .chain⟩ (by simp [opsPar3]) rfl) ⟨15, .chain⟩ (by simp [opsPar3]) rfl) ⟨14, .data⟩ (by simp [opsPar3]) rfl) (by rw [hLi]; decide))
    have hf8 : flagsOf par3C L 8 = false := (flagsOf_at (C := par3C) (j := 8) rfl L).trans (by
      cases hl : L 25 with
      | false => rfl
      | true => exact absurd (hcl 15 _ rfl (hcl 18 _ rfl (hcl 21 _ rfl (hcl 25 _ rfl (hl) ⟨21, .chain⟩ (by simp [opsPar3]) rfl) ⟨18, .chain⟩ (by simp [opsPar3]) rfl) ⟨15, .chain⟩ (by simp [opsPar3]) rfl) ⟨14, .data⟩ (by simp [opsPar3]) rfl) (by rw [hLi]; decide))
    have hf10 : flagsOf par3C L 10 = false := (flagsOf_at (C := par3C) (j := 10) rfl L).trans (by
      cases hl : L 29 with
      | false => rfl
      | true => exact absurd (hcl 29 _ rfl (hl) ⟨14, .phase⟩ (by simp [opsPar3]) rfl) (by rw [hLi]; decide))
    have hfin := hK (.string p5) w (hG.quiet 9 14 23 _ rfl (by kernel_rfl) (by kernel_rfl))
    have HK := Lib.hid hfin
    generalize (resOf par3C fun t => a.eval (.tmp t)) = R at *
    generalize flagsOf par3C L = f at *
    clear z1 z2 c0 c1 c2 c3 c4 c5 c6 c7 c8 c9 c10 hv hqp1 hqp2 hqp3 hqp4 hqp6 hqp7 hqp8
    clear hSp
    clear hG hcl hdep hfr hK hfin hLi 
    go_simp
    exact HK.out
  | 15, ho =>
    simp only [opsPar3, List.getElem?_toArray, List.getElem?_cons_succ, List.getElem?_cons_zero, Option.some.injEq] at ho
    subst ho
    have x23 : a.tmps[23]?.getD undef = .string p5 := by rw [← ev]; exact hG.val 9 14 23 _ rfl (hdep ⟨14, .data⟩ (by simp) rfl)
    rw [if_pos (show Region.wanted _ _ = true from rfl)]
    have hSj := hG.1
    have hf0 : flagsOf par3C L 0 = true := (flagsOf_at (C := par3C) (j := 0) rfl L).trans (hcl 3 _ rfl (hcl 6 _ rfl (hcl 9 _ rfl (hcl 12 _ rfl (hdep ⟨12, .chain⟩ (by simp) rfl) ⟨9, .chain⟩ (by simp [opsPar3]) rfl) ⟨6, .chain⟩ (by simp [opsPar3]) rfl) ⟨3, .chain⟩ (by simp [opsPar3]) rfl) ⟨2, .data⟩ (by simp [opsPar3]) rfl)
    have hf1 : flagsOf par3C L 1 = true := (flagsOf_at (C := par3C) (j := 1) rfl L).trans (hcl 6 _ rfl (hcl 9 _ rfl (hcl 12 _ rfl (hdep ⟨12, .chain⟩ (by simp) rfl) ⟨9, .chain⟩ (by simp [opsPar3]) rfl) ⟨6, .chain⟩ (by simp [opsPar3]) rfl) ⟨3, .chain⟩ (by simp [opsPar3]) rfl)
    have hf2 : flagsOf par3C L 2 = true := (flagsOf_at (C := par3C) (j := 2) rfl L).trans (hcl 9 _ rfl (hcl 12 _ rfl (hdep ⟨12, .chain⟩ (by simp) rfl) ⟨9, .chain⟩ (by simp [opsPar3]) rfl) ⟨6, .chain⟩ (by simp [opsPar3]) rfl)
    have hf3 : flagsOf par3C L 3 = true := (flagsOf_at (C := par3C) (j := 3) rfl L).trans (hcl 12 _ rfl (hdep ⟨12, .chain⟩ (by simp) rfl) ⟨9, .chain⟩ (by simp [opsPar3]) rfl)
    have hf4 : flagsOf par3C L 4 = true := (flagsOf_at (C := par3C) (j := 4) rfl L).trans (hdep ⟨12, .chain⟩ (by simp) rfl)
    have hf5 : flagsOf par3C L 5 = false := (flagsOf_at (C := par3C) (j := 5) rfl L).trans hLi
    have hf6 : flagsOf par3C L 6 = false := (flagsOf_at (C := par3C) (j := 6) rfl L).trans (by
      cases hl : L 18 with
      | false => rfl
      | true => exact absurd (hcl 18 _ rfl (hl) ⟨15, .chain⟩ (by simp [opsPar3]) rfl) (by rw [hLi]; decide))
    have hf7 : flagsOf par3C L 7 = false := (flagsOf_at (C := par3C) (j := 7) rfl L).trans (by
      cases hl : L 21 with
      | false => rfl
      | true => exact absurd (hcl 18 _ rfl (hcl 21 _ rfl (hl) ⟨18, .chain⟩ (by simp [opsPar3]) rfl) ⟨15, .chain⟩ (by simp [opsPar3]) rfl) (by rw [hLi]; decide))
    have hf8 : flagsOf par3C L 8 = false := (flagsOf_at (C := par3C) (j := 8) rfl L).trans (by
      cases hl : L 25 with
      | false => rfl
      | true => exact absurd (hcl 18 _ rfl (hcl 21 _ rfl (hcl 25 _ rfl (hl) ⟨21, .chain⟩ (by simp [opsPar3]) rfl) ⟨18, .chain⟩ (by simp [opsPar3]) rfl) ⟨15, .chain⟩ (by simp [opsPar3]) rfl) (by rw [hLi]; decide))
    have hf10 : flagsOf par3C L 10 = false := (flagsOf_at (C := par3C) (j := 10) rfl L).trans (by
      cases hl : L 29 with
      | false => rfl
      | true => exact absurd (hcl 29 _ rfl (hl) ⟨15, .phase⟩ (by simp [opsPar3]) rfl) (by rw [hLi]; decide))
    have hfin := fun v w' hs => hK v w' (hG.call 5 (15, 24) rfl (by kernel_rfl) v w' hs)
    have HK := Lib.hid hfin
    generalize (resOf par3C fun t => a.eval (.tmp t)) = R at *
    generalize flagsOf par3C L = f at *
    clear hG hcl hdep hfr hK hfin hLi
    have hc := Lib.hid (c5 _ _ _ hSj hf5)
    clear hSj hsz z1 z2 c0 c1 c2 c3 c4 c5 c6 c7 c8 c9 c10 hv hqp1 hqp2 hqp3 hqp4 hqp5 hqp6 hqp7 hqp8
    go_simp
    go_at_call 23
    refine hc.out.mono ?_
    rintro e w' ⟨v, rfl, hs⟩
    exact HK.out v w' hs
  | 16, ho =>
    simp only [opsPar3, List.getElem?_toArray, List.getElem?_cons_succ, List.getElem?_cons_zero, Option.some.injEq] at ho
    subst ho
    rw [if_pos (show Region.wanted _ _ = true from rfl)]
    have hSp := hG.1
    have hf6 : flagsOf par3C L 6 = false := (flagsOf_at (C := par3C) (j := 6) rfl L).trans (by
      cases hl : L 18 with
      | false => rfl
      | true => exact absurd (hcl 17 _ rfl (hcl 18 _ rfl (hl) ⟨17, .data⟩ (by simp [opsPar3]) rfl) ⟨16, .data⟩ (by simp [opsPar3]) rfl) (by rw [hLi]; decide))
    have hf7 : flagsOf par3C L 7 = false := (flagsOf_at (C := par3C) (j := 7) rfl L).trans (by
      cases hl : L 21 with
      | false => rfl
      | true => exact absurd (hcl 17 _ rfl (hcl 18 _ rfl (hcl 21 _ rfl (hl) ⟨18, .chain⟩ (by simp [opsPar3]) rfl) ⟨17, .data⟩ (by simp [opsPar3]) rfl) ⟨16, .data⟩ (by simp [opsPar3]) rfl) (by rw [hLi]; decide))
    have hf8 : flagsOf par3C L 8 = false := (flagsOf_at (C := par3C) (j := 8) rfl L).trans (by
      cases hl : L 25 with
      | false => rfl
      | true => exact absurd (hcl 17 _ rfl (hcl 18 _ rfl (hcl 21 _ rfl (hcl 25 _ rfl (hl) ⟨21, .chain⟩ (by simp [opsPar3]) rfl) ⟨18, .chain⟩ (by simp [opsPar3]) rfl) ⟨17, .data⟩ (by simp [opsPar3]) rfl) ⟨16, .data⟩ (by simp [opsPar3]) rfl) (by rw [hLi]; decide))
    have hf10 : flagsOf par3C L 10 = false := (flagsOf_at (C := par3C) (j := 10) rfl L).trans (by
      cases hl : L 29 with
      | false => rfl
      | true => exact absurd (hcl 29 _ rfl (hl) ⟨16, .phase⟩ (by simp [opsPar3]) rfl) (by rw [hLi]; decide))
    have hfin := hK (.string s) w (hG.quiet 10 16 25 _ rfl (by kernel_rfl) (by kernel_rfl))
    have HK := Lib.hid hfin
    generalize (resOf par3C fun t => a.eval (.tmp t)) = R at *
    generalize flagsOf par3C L = f at *
    clear hsz z1 z2 c0 c1 c2 c3 c4 c5 c6 c7 c8 c9 c10 hv hqp1 hqp2 hqp3 hqp4 hqp5 hqp6 hqp7 hqp8
    clear hSp
    clear hG hcl hdep hfr hK hfin hLi 
    go_simp
    exact HK.out
  | 17, ho =>
    simp only [opsPar3, List.getElem?_toArray, List.getElem?_cons_succ, List.getElem?_cons_zero, Option.some.injEq] at ho
    subst ho
    have x25 : a.tmps[25]?.getD undef = .string s := by rw [← ev]; exact hG.val 10 16 25 _ rfl (hdep ⟨16, .data⟩ (by simp) rfl)
    rw [if_pos (show Region.wanted _ _ = true from rfl)]
    have hSp := hG.1
    have hf6 : flagsOf par3C L 6 = false := (flagsOf_at (C := par3C) (j := 6) rfl L).trans (by
      cases hl : L 18 with
      | false => rfl
      | true => exact absurd (hcl 18 _ rfl (hl) ⟨17, .data⟩ (by simp [opsPar3]) rfl) (by rw [hLi]; decide))
    have hf7 : flagsOf par3C L 7 = false := (flagsOf_at (C := par3C) (j := 7) rfl L).trans (by
      cases hl : L 21 with
      | false => rfl
      | true => exact absurd (hcl 18 _ rfl (hcl 21 _ rfl (hl) ⟨18, .chain⟩ (by simp [opsPar3]) rfl) ⟨17, .data⟩ (by simp [opsPar3]) rfl) (by rw [hLi]; decide))
    have hf8 : flagsOf par3C L 8 = false := (flagsOf_at (C := par3C) (j := 8) rfl L).trans (by
      cases hl : L 25 with
      | false => rfl
      | true => exact absurd (hcl 18 _ rfl (hcl 21 _ rfl (hcl 25 _ rfl (hl) ⟨21, .chain⟩ (by simp [opsPar3]) rfl) ⟨18, .chain⟩ (by simp [opsPar3]) rfl) ⟨17, .data⟩ (by simp [opsPar3]) rfl) (by rw [hLi]; decide))
    have hf10 : flagsOf par3C L 10 = false := (flagsOf_at (C := par3C) (j := 10) rfl L).trans (by
      cases hl : L 29 with
      | false => rfl
      | true => exact absurd (hcl 29 _ rfl (hl) ⟨17, .phase⟩ (by simp [opsPar3]) rfl) (by rw [hLi]; decide))
    have hfin := hK (.string p6) w (hG.quiet 11 17 26 _ rfl (by kernel_rfl) (by kernel_rfl))
    have HK := Lib.hid hfin
    generalize (resOf par3C fun t => a.eval (.tmp t)) = R at *
    generalize flagsOf par3C L = f at *
    clear z1 z2 c0 c1 c2 c3 c4 c5 c6 c7 c8 c9 c10 hv hqp1 hqp2 hqp3 hqp4 hqp5 hqp7 hqp8
    clear hSp
    clear hG hcl hdep hfr hK hfin hLi 
    go_simp
    exact HK.out
  | 18, ho =>
    simp only [opsPar3, List.getElem?_toArray, List.getElem?_cons_succ, List.getElem?_cons_zero, Option.some.injEq] at ho
    subst ho
    have x26 : a.tmps[26]?.getD undef = .string p6 := by rw [← ev]; exact hG.val 11 17 26 _ rfl (hdep ⟨17, .data⟩ (by simp) rfl)
    rw [if_pos (show Region.wanted _ _ = true from rfl)]
    have hSj := hG.1
    have hf0 : flagsOf par3C L 0 = true := (flagsOf_at (C := par3C) (j := 0) rfl L).trans (hcl 3 _ rfl (hcl 6 _ rfl (hcl 9 _ rfl (hcl 12 _ rfl (hcl 15 _ rfl (hdep ⟨15, .chain⟩ (by simp) rfl) ⟨12, .chain⟩ (by simp [opsPar3]) rfl) ⟨9, .chain⟩ (by simp [opsPar3]) rfl) ⟨6, .chain⟩ (by simp [opsPar3]) rfl) ⟨3, .chain⟩ (by simp [opsPar3]) rfl) ⟨2, .data⟩ (by simp [opsPar3]) rfl)
    have hf1 : flagsOf par3C L 1 = true := (flagsOf_at (C := par3C) (j := 1) rfl L).trans (hcl 6 _ rfl (hcl 9 _ rfl (hcl 12 _ rfl (hcl 15 _ rfl (hdep ⟨15, .chain⟩ (by simp) rfl) ⟨12, .chain⟩ (by simp [opsPar3]) rfl) ⟨9, .chain⟩ (by simp [opsPar3]) rfl) ⟨6, .chain⟩ (by simp [opsPar3]) rfl) ⟨3, .chain⟩ (by simp [opsPar3]) rfl)
    have hf2 : flagsOf par3C L 2 = true := (flagsOf_at (C := par3C) (j := 2) rfl L).trans (hcl 9 _ rfl (hcl 12 _ rfl (hcl 15 _ rfl (hdep ⟨15, .chain⟩ (by simp) rfl) ⟨12, .chain⟩ (by simp [opsPar3]) rfl) ⟨9, .chain⟩ (by simp [opsPar3]) rfl) ⟨6, .chain⟩ (by simp [opsPar3]) rfl)
    have hf3 : flagsOf par3C L 3 = true := (flagsOf_at (C := par3C) (j := 3) rfl L).trans (hcl 12 _ rfl (hcl 15 _ rfl (hdep ⟨15, .chain⟩ (by simp) rfl) ⟨12, .chain⟩ (by simp [opsPar3]) rfl) ⟨9, .chain⟩ (by simp [opsPar3]) rfl)
    have hf4 : flagsOf par3C L 4 = true := (flagsOf_at (C := par3C) (j := 4) rfl L).trans (hcl 15 _ rfl (hdep ⟨15, .chain⟩ (by simp) rfl) ⟨12, .chain⟩ (by simp [opsPar3]) rfl)
    have hf5 : flagsOf par3C L 5 = true := (flagsOf_at (C := par3C) (j := 5) rfl L).trans (hdep ⟨15, .chain⟩ (by simp) rfl)
    have hf6 : flagsOf par3C L 6 = false := (flagsOf_at (C := par3C) (j := 6) rfl L).trans hLi
    have hf7 : flagsOf par3C L 7 = false := (flagsOf_at (C := par3C) (j := 7) rfl L).trans (by
      cases hl : L 21 with
      | false => rfl
      | true => exact absurd (hcl 21 _ rfl (hl) ⟨18, .chain⟩ (by simp [opsPar3]) rfl) (by rw [hLi]; decide))
    have hf8 : flagsOf par3C L 8 = false := (flagsOf_at (C := par3C) (j := 8) rfl L).trans (by
      cases hl : L 25 with
      | false => rfl
      | true => exact absurd (hcl 21 _ rfl (hcl 25 _ rfl (hl) ⟨21, .chain⟩ (by simp [opsPar3]) rfl) ⟨18, .chain⟩ (by simp [opsPar3]) rfl) (by rw [hLi]; decide))
    have hf10 : flagsOf par3C L 10 = false := (flagsOf_at (C := par3C) (j := 10) rfl L).trans (by
      cases hl : L 29 with
      | false => rfl
      | true => exact absurd (hcl 29 _ rfl (hl) ⟨18, .phase⟩ (by simp [opsPar3]) rfl) (by rw [hLi]; decide))
    have hfin := fun v w' hs => hK v w' (hG.call 6 (18, 27) rfl (by kernel_rfl) v w' hs)
    have HK := Lib.hid hfin
    generalize (resOf par3C fun t => a.eval (.tmp t)) = R at *
    generalize flagsOf par3C L = f at *
    clear hG hcl hdep hfr hK hfin hLi
    have hc := Lib.hid (c6 _ _ _ hSj hf6)
    clear hSj hsz z1 z2 c0 c1 c2 c3 c4 c5 c6 c7 c8 c9 c10 hv hqp1 hqp2 hqp3 hqp4 hqp5 hqp6 hqp7 hqp8
    go_simp
    go_at_call 23
    refine hc.out.mono ?_
    rintro e w' ⟨v, rfl, hs⟩
    exact HK.out v w' hs
  | 19, ho =>
    simp only [opsPar3, List.getElem?_toArray, List.getElem?_cons_succ, List.getElem?_cons_zero, Option.some.injEq] at ho
    subst ho
    rw [if_pos (show Region.wanted _ _ = true from rfl)]
    have hSp := hG.1
    have hf7 : flagsOf par3C L 7 = false := (flagsOf_at (C := par3C) (j := 7) rfl L).trans (by
      cases hl : L 21 with
      | false => rfl
      | true => exact absurd (hcl 20 _ rfl (hcl 21 _ rfl (hl) ⟨20, .data⟩ (by simp [opsPar3]) rfl) ⟨19, .data⟩ (by simp [opsPar3]) rfl) (by rw [hLi]; decide))
    have hf8 : flagsOf par3C L 8 = false := (flagsOf_at (C := par3C) (j := 8) rfl L).trans (by
      cases hl : L 25 with
      | false => rfl
      | true => exact absurd (hcl 20 _ rfl (hcl 21 _ rfl (hcl 25 _ rfl (hl) ⟨21, .chain⟩ (by simp [opsPar3]) rfl) ⟨20, .data⟩ (by simp [opsPar3]) rfl) ⟨19, .data⟩ (by simp [opsPar3]) rfl) (by rw [hLi]; decide))
    have hf10 : flagsOf par3C L 10 = false := (flagsOf_at (C := par3C) (j := 10) rfl L).trans (by
      cases hl : L 29 with
      | false => rfl
      | true => exact absurd (hcl 29 _ rfl (hl) ⟨19, .phase⟩ (by simp [opsPar3]) rfl) (by rw [hLi]; decide))
    have hfin := hK (.string s) w (hG.quiet 12 19 28 _ rfl (by kernel_rfl) (by kernel_rfl))
    have HK := Lib.hid hfin
    generalize (resOf par3C fun t => a.eval (.tmp t)) = R at *
    generalize flagsOf par3C L = f at *
    clear hsz z1 z2 c0 c1 c2 c3 c4 c5 c6 c7 c8 c9 c10 hv hqp1 hqp2 hqp3 hqp4 hqp5 hqp6 hqp7 hqp8
    clear hSp
    clear hG hcl hdep hfr hK hfin hLi 
    go_simp
    exact HK.out
  | 20, ho =>
    simp only [opsPar3, List.getElem?_toArray, List.getElem?_cons_succ, List.getElem?_cons_zero, Option.some.injEq] at ho
    subst ho
    have x28 : a.tmps[28]?.getD undef = .string s := by rw [← ev]; exact hG.val 12 19 28 _ rfl (hdep ⟨19, .data⟩ (by simp) rfl)
    rw [if_pos (show Region.wanted _ _ = true from rfl)]
    have hSp := hG.1
    have hf7 : flagsOf par3C L 7 = false := (flagsOf_at (C := par3C) (j := 7) rfl L).trans (by
      cases hl : L 21 with
      | false => rfl
      | true => exact absurd (hcl 21 _ rfl (hl) ⟨20, .data⟩ (by simp [opsPar3]) rfl) (by rw [hLi]; decide))
    have hf8 : flagsOf par3C L 8 = false := (flagsOf_at (C := par3C) (j := 8) rfl L).trans (by
      cases hl : L 25 with
      | false => rfl
      | true => exact absurd (hcl 21 _ rfl (hcl 25 _ rfl (hl) ⟨21, .chain⟩ (by simp [opsPar3]) rfl) ⟨20, .data⟩ (by simp [opsPar3]) rfl) (by rw [hLi]; decide))
    have hf10 : flagsOf par3C L 10 = false := (flagsOf_at (C := par3C) (j := 10) rfl L).trans (by
      cases hl : L 29 with
      | false => rfl
      | true => exact absurd (hcl 29 _ rfl (hl) ⟨20, .phase⟩ (by simp [opsPar3]) rfl) (by rw [hLi]; decide))
    have hfin := hK (.string p7) w (hG.quiet 13 20 29 _ rfl (by kernel_rfl) (by kernel_rfl))
    have HK := Lib.hid hfin
    generalize (resOf par3C fun t => a.eval (.tmp t)) = R at *
    generalize flagsOf par3C L = f at *
    clear z1 z2 c0 c1 c2 c3 c4 c5 c6 c7 c8 c9 c10 hv hqp1 hqp2 hqp3 hqp4 hqp5 hqp6 hqp8
    clear hSp
    clear hG hcl hdep hfr hK hfin hLi 
    go_simp
    exact HK.out
  | 21, ho =>
    simp only [opsPar3, List.getElem?_toArray, List.getElem?_cons_succ, List.getElem?_cons_zero, Option.some.injEq] at ho
    subst ho
    have x29 : a.tmps[29]?.getD undef = .string p7 := by rw [← ev]; exact hG.val 13 20 29 _ rfl (hdep ⟨20, .data⟩ (by simp) rfl)
    rw [if_pos (show Region.wanted _ _ = true from rfl)]
    have hSj := hG.1
    have hf0 : flagsOf par3C L 0 = true := (flagsOf_at (C := par3C) (j := 0) rfl L).trans (hcl 3 _ rfl (hcl 6 _ rfl (hcl 9 _ rfl (hcl 12 _ rfl (hcl 15 _ rfl (hcl 18 _ rfl (hdep ⟨18, .chain⟩ (by simp) rfl) ⟨15, .chain⟩ (by simp [opsPar3]) rfl) ⟨12, .chain⟩ (by simp [opsPar3]) rfl) ⟨9, .chain⟩ (by simp [opsPar3]) rfl) ⟨6, .chain⟩ (by simp [opsPar3]) rfl) ⟨3, .chain⟩ (by simp [opsPar3]) rfl) ⟨2, .data⟩ (by simp [opsPar3]) rfl)
    have hf1 : flagsOf par3C L 1 = true := (flagsOf_at (C := par3C) (j := 1) rfl L).trans (hcl 6 _ rfl (hcl 9 _ rfl (hcl 12 _ rfl (hcl 15 _ rfl (hcl 18 _ rfl (hdep ⟨18, .chain⟩ (by simp) rfl) ⟨15, .chain⟩ (by simp [opsPar3]) rfl) ⟨12, .chain⟩ (by simp [opsPar3]) rfl) ⟨9, .chain⟩ (by simp [opsPar3]) rfl) ⟨6, .chain⟩ (by simp [opsPar3]) rfl) ⟨3, .chain⟩ (by simp [opsPar3]) rfl)
    have hf2 : flagsOf par3C L 2 = true := (flagsOf_at (C := par3C) (j := 2) rfl L).trans (hcl 9 _ rfl (hcl 12 _ rfl (hcl 15 _ rfl (hcl 18 _ rfl (hdep ⟨18, .chain⟩ (by simp) rfl) ⟨15, .chain⟩ (by simp [opsPar3]) rfl) ⟨12, .chain⟩ (by simp [opsPar3]) rfl) ⟨9, .chain⟩ (by simp [opsPar3]) rfl) ⟨6, .chain⟩ (by simp [opsPar3]) rfl)
    have hf3 : flagsOf par3C L 3 = true := (flagsOf_at (C := par3C) (j := 3) rfl L).trans (hcl 12 _ rfl (hcl 15 _ rfl (hcl 18 _ rfl (hdep ⟨18, .chain⟩ (by simp) rfl) ⟨15, .chain⟩ (by simp [opsPar3]) rfl) ⟨12, .chain⟩ (by simp [opsPar3]) rfl) ⟨9, .chain⟩ (by simp [opsPar3]) rfl)
    have hf4 : flagsOf par3C L 4 = true := (flagsOf_at (C := par3C) (j := 4) rfl L).trans (hcl 15 _ rfl (hcl 18 _ rfl (hdep ⟨18, .chain⟩ (by simp) rfl) ⟨15, .chain⟩ (by simp [opsPar3]) rfl) ⟨12, .chain⟩ (by simp [opsPar3]) rfl)
    have hf5 : flagsOf par3C L 5 = true := (flagsOf_at (C := par3C) (j := 5) rfl L).trans (hcl 18 _ rfl (hdep ⟨18, .chain⟩ (by simp) rfl) ⟨15, .chain⟩ (by simp [opsPar3]) rfl)
    have hf6 : flagsOf par3C L 6 = true := (flagsOf_at (C := par3C) (j := 6) rfl L).trans (hdep ⟨18, .chain⟩ (by simp) rfl)
    have hf7 : flagsOf par3C L 7 = false := (flagsOf_at (C := par3C) (j := 7) rfl L).trans hLi
    have hf8 : flagsOf par3C L 8 = false := (flagsOf_at (C := par3C) (j := 8) rfl L).trans (by
      cases hl : L 25 with
      | false => rfl
      | true => exact absurd (hcl 25 _ rfl (hl) ⟨21, .chain⟩ (by simp [opsPar3]) rfl) (by rw [hLi]; decide))
    have hf10 : flagsOf par3C L 10 = false := (flagsOf_at (C := par3C) (j := 10) rfl L).trans (by
      cases hl : L 29 with
      | false => rfl
      | true => exact absurd (hcl 29 _ rfl (hl) ⟨21, .phase⟩ (by simp [opsPar3]) rfl) (by rw [hLi]; decide))
    have hfin := fun v w' hs => hK v w' (hG.call 7 (21, 30) rfl (by kernel_rfl) v w' hs)
    have HK := Lib.hid hfin
    generalize (resOf par3C fun t => a.eval (.tmp t)) = R at *
    generalize flagsOf par3C L = f at *
    clear hG hcl hdep hfr hK hfin hLi
    have hc := Lib.hid (c7 _ _ _ hSj hf7)
    clear hSj hsz z1 z2 c0 c1 c2 c3 c4 c5 c6 c7 c8 c9 c10 hv hqp1 hqp2 hqp3 hqp4 hqp5 hqp6 hqp7 hqp8
    go_simp
    go_at_call 23
    refine hc.out.mono ?_
    rintro e w' ⟨v, rfl, hs⟩
    exact HK.out v w' hs
  | 22, ho =>
    simp only [opsPar3, List.getElem?_toArray, List.getElem?_cons_succ, List.getElem?_cons_zero, Option.some.injEq] at ho
    subst ho
    rw [if_pos (show Region.wanted _ _ = true from rfl)]
    have hSp := hG.1
    have hf0 : flagsOf par3C L 0 = true := (flagsOf_at (C := par3C) (j := 0) rfl L).trans (hcl 3 _ rfl (hcl 6 _ rfl (hcl 9 _ rfl (hcl 12 _ rfl (hcl 15 _ rfl (hcl 18 _ rfl (hcl 21 _ rfl (hdep ⟨21, .data⟩ (by simp) rfl) ⟨18, .chain⟩ (by simp [opsPar3]) rfl) ⟨15, .chain⟩ (by simp [opsPar3]) rfl) ⟨12, .chain⟩ (by simp [opsPar3]) rfl) ⟨9, .chain⟩ (by simp [opsPar3]) rfl) ⟨6, .chain⟩ (by simp [opsPar3]) rfl) ⟨3, .chain⟩ (by simp [opsPar3]) rfl) ⟨2, .data⟩ (by simp [opsPar3]) rfl)
    have hf1 : flagsOf par3C L 1 = true := (flagsOf_at (C := par3C) (j := 1) rfl L).trans (hcl 6 _ rfl (hcl 9 _ rfl (hcl 12 _ rfl (hcl 15 _ rfl (hcl 18 _ rfl (hcl 21 _ rfl (hdep ⟨21, .data⟩ (by simp) rfl) ⟨18, .chain⟩ (by simp [opsPar3]) rfl) ⟨15, .chain⟩ (by simp [opsPar3]) rfl) ⟨12, .chain⟩ (by simp [opsPar3]) rfl) ⟨9, .chain⟩ (by simp [opsPar3]) rfl) ⟨6, .chain⟩ (by simp [opsPar3]) rfl) ⟨3, .chain⟩ (by simp [opsPar3]) rfl)
    have hf2 : flagsOf par3C L 2 = true := (flagsOf_at (C := par3C) (j := 2) rfl L).trans (hcl 9 _ rfl (hcl 12 _ rfl (hcl 15 _ rfl (hcl 18 _ rfl (hcl 21 _ rfl (hdep ⟨21, .data⟩ (by simp) rfl) ⟨18, .chain⟩ (by simp [opsPar3]) rfl) ⟨15, .chain⟩ (by simp [opsPar3]) rfl) ⟨12, .chain⟩ (by simp [opsPar3]) rfl) ⟨9, .chain⟩ (by simp [opsPar3]) rfl) ⟨6, .chain⟩ (by simp [opsPar3]) rfl)
    have hf3 : flagsOf par3C L 3 = true := (flagsOf_at (C := par3C) (j := 3) rfl L).trans (hcl 12 _ rfl (hcl 15 _ rfl (hcl 18 _ rfl (hcl 21 _ rfl (hdep ⟨21, .data⟩ (by simp) rfl) ⟨18, .chain⟩ (by simp [opsPar3]) rfl) ⟨15, .chain⟩ (by simp [opsPar3]) rfl) ⟨12, .chain⟩ (by simp [opsPar3]) rfl) ⟨9, .chain⟩ (by simp [opsPar3]) rfl)
    have hf4 : flagsOf par3C L 4 = true := (flagsOf_at (C := par3C) (j := 4) rfl L).trans (hcl 15 _ rfl (hcl 18 _ rfl (hcl 21 _ rfl (hdep ⟨21, .data⟩ (by simp) rfl) ⟨18, .chain⟩ (by simp [opsPar3]) rfl) ⟨15, .chain⟩ (by simp [opsPar3]) rfl) ⟨12, .chain⟩ (by simp [opsPar3]) rfl)
    have hf5 : flagsOf par3C L 5 = true := (flagsOf_at (C := par3C) (j := 5) rfl L).trans (hcl 18 _ rfl (hcl 21 _ rfl (hdep ⟨21, .data⟩ (by simp) rfl) ⟨18, .chain⟩ (by simp [opsPar3]) rfl) ⟨15, .chain⟩ (by simp [opsPar3]) rfl)
    have hf6 : flagsOf par3C L 6 = true := (flagsOf_at (C := par3C) (j := 6) rfl L).trans (hcl 21 _ rfl (hdep ⟨21, .data⟩ (by simp) rfl) ⟨18, .chain⟩ (by simp [opsPar3]) rfl)
    have hf7 : flagsOf par3C L 7 = true := (flagsOf_at (C := par3C) (j := 7) rfl L).trans (hdep ⟨21, .data⟩ (by simp) rfl)
    have hf10 : flagsOf par3C L 10 = false := (flagsOf_at (C := par3C) (j := 10) rfl L).trans (by
      cases hl : L 29 with
      | false => rfl
      | true => exact absurd (hcl 29 _ rfl (hl) ⟨22, .phase⟩ (by simp [opsPar3]) rfl) (by rw [hLi]; decide))
    have r30 : a.tmps[30]?.getD undef = resOf par3C (fun t => a.eval (.tmp t)) 7 := by rw [← ev]; exact (resOf_at (C := par3C) (j := 7) rfl a).symm
    have hfin := hK (.int .i64 (zh * 60)) w (hG.quiet 14 22 31 _ rfl (by kernel_rfl) (by kernel_rfl))
    have HK := Lib.hid hfin
    generalize (resOf par3C fun t => a.eval (.tmp t)) = R at *
    generalize flagsOf par3C L = f at *
    rw [hv _ _ _ hSp 7 _ hf7 rfl] at r30
    clear hsz z2 c0 c1 c2 c3 c4 c5 c6 c7 c8 c9 c10 hv hqp1 hqp2 hqp3 hqp4 hqp5 hqp6 hqp7 hqp8
    clear hSp
    clear hG hcl hdep hfr hK hfin hLi 
    go_simp
    exact HK.out
  | 23, ho =>
    simp only [opsPar3, List.getElem?_toArray, List.getElem?_cons_succ, List.getElem?_cons_zero, Option.some.injEq] at ho
    subst ho
    rw [if_pos (show Region.wanted _ _ = true from rfl)]
    have hSp := hG.1
    have hf8 : flagsOf par3C L 8 = false := (flagsOf_at (C := par3C) (j := 8) rfl L).trans (by
      cases hl : L 25 with
      | false => rfl
      | true => exact absurd (hcl 24 _ rfl (hcl 25 _ rfl (hl) ⟨24, .data⟩ (by simp [opsPar3]) rfl) ⟨23, .data⟩ (by simp [opsPar3]) rfl) (by rw [hLi]; decide))
    have hf10 : flagsOf par3C L 10 = false := (flagsOf_at (C := par3C) (j := 10) rfl L).trans (by
      cases hl : L 29 with
      | false => rfl
      | true => exact absurd (hcl 29 _ rfl (hl) ⟨23, .phase⟩ (by simp [opsPar3]) rfl) (by rw [hLi]; decide))
    have hfin := hK (.string s) w (hG.quiet 15 23 32 _ rfl (by kernel_rfl) (by kernel_rfl))
    have HK := Lib.hid hfin
    generalize (resOf par3C fun t => a.eval (.tmp t)) = R at *
    generalize flagsOf par3C L = f at *
    clear hsz z1 z2 c0 c1 c2 c3 c4 c5 c6 c7 c8 c9 c10 hv hqp1 hqp2 hqp3 hqp4 hqp5 hqp6 hqp7 hqp8
    clear hSp
    clear hG hcl hdep hfr hK hfin hLi 
    go_simp
    exact HK.out
  | 24, ho =>
    simp only [opsPar3, List.getElem?_toArray, List.getElem?_cons_succ, List.getElem?_cons_zero, Option.some.injEq] at ho
    subst ho
    have x32 : a.tmps[32]?.getD undef = .string s := by rw [← ev]; exact hG.val 15 23 32 _ rfl (hdep ⟨23, .data⟩ (by simp) rfl)
    rw [if_pos (show Region.wanted _ _ = true from rfl)]
    have hSp := hG.1
    have hf8 : flagsOf par3C L 8 = false := (flagsOf_at (C := par3C) (j := 8) rfl L).trans (by
      cases hl : L 25 with
      | false => rfl
      | true => exact absurd (hcl 25 _ rfl (hl) ⟨24, .data⟩ (by simp [opsPar3]) rfl) (by rw [hLi]; decide))
    have hf10 : flagsOf par3C L 10 = false := (flagsOf_at (C := par3C) (j := 10) rfl L).trans (by
      cases hl : L 29 with
      | false => rfl
      | true => exact absurd (hcl 29 _ rfl (hl) ⟨24, .phase⟩ (by simp [opsPar3]) rfl) (by rw [hLi]; decide))
    have hfin := hK (.string p8) w (hG.quiet 16 24 33 _ rfl (by kernel_rfl) (by kernel_rfl))
    have HK := Lib.hid hfin
    generalize (resOf par3C fun t => a.eval (.tmp t)) = R at *
    generalize flagsOf par3C L = f at *
    clear z1 z2 c0 c1 c2 c3 c4 c5 c6 c7 c8 c9 c10 hv hqp1 hqp2 hqp3 hqp4 hqp5 hqp6 hqp7
    clear hSp
    clear hG hcl hdep hfr hK hfin hLi 
    go_simp
    exact HK.out
  | 25, ho =>
    simp only [opsPar3, List.getElem?_toArray, List.getElem?_cons_succ, List.getElem?_cons_zero, Option.some.injEq] at ho
    subst ho
    have x33 : a.tmps[33]?.getD undef = .string p8 := by rw [← ev]; exact hG.val 16 24 33 _ rfl (hdep ⟨24, .data⟩ (by simp) rfl)
    rw [if_pos (show Region.wanted _ _ = true from rfl)]
    have hSj := hG.1
    have hf0 : flagsOf par3C L 0 = true := (flagsOf_at (C := par3C) (j := 0) rfl L).trans (hcl 3 _ rfl (hcl 6 _ rfl (hcl 9 _ rfl (hcl 12 _ rfl (hcl 15 _ rfl (hcl 18 _ rfl (hcl 21 _ rfl (hdep ⟨21, .chain⟩ (by simp) rfl) ⟨18, .chain⟩ (by simp [opsPar3]) rfl) ⟨15, .chain⟩ (by simp [opsPar3]) rfl) ⟨12, .chain⟩ (by simp [opsPar3]) rfl) ⟨9, .chain⟩ (by simp [opsPar3]) rfl) ⟨6, .chain⟩ (by simp [opsPar3]) rfl) ⟨3, .chain⟩ (by simp [opsPar3]) rfl) ⟨2, .data⟩ (by simp [opsPar3]) rfl)
    have hf1 : flagsOf par3C L 1 = true := (flagsOf_at (C := par3C) (j := 1) rfl L).trans (hcl 6 _ rfl (hcl 9 _ rfl (hcl 12 _ rfl (hcl 15 _ rfl (hcl 18 _ rfl (hcl 21 _ rfl (hdep ⟨21, .chain⟩ (by simp) rfl) ⟨18, .chain⟩ (by simp [opsPar3]) rfl) ⟨15, .chain⟩ (by simp [opsPar3]) rfl) ⟨12, .chain⟩ (by simp [opsPar3]) rfl) ⟨9, .chain⟩ (by simp [opsPar3]) rfl) ⟨6, .chain⟩ (by simp [opsPar3]) rfl) ⟨3, .chain⟩ (by simp [opsPar3]) rfl)
    have hf2 : flagsOf par3C L 2 = true := (flagsOf_at (C := par3C) (j := 2) rfl L).trans (hcl 9 _ rfl (hcl 12 _ rfl (hcl 15 _ rfl (hcl 18 _ rfl (hcl 21 _ rfl (hdep ⟨21, .chain⟩ (by simp) rfl) ⟨18, .chain⟩ (by simp [opsPar3]) rfl) ⟨15, .chain⟩ (by simp [opsPar3]) rfl) ⟨12, .chain⟩ (by simp [opsPar3]) rfl) ⟨9, .chain⟩ (by simp [opsPar3]) rfl) ⟨6, .chain⟩ (by simp [opsPar3]) rfl)
    have hf3 : flagsOf par3C L 3 = true := (flagsOf_at (C := par3C) (j := 3) rfl L).trans (hcl 12 _ rfl (hcl 15 _ rfl (hcl 18 _ rfl (hcl 21 _ rfl (hdep ⟨21, .chain⟩ (by simp) rfl) ⟨18, .chain⟩ (by simp [opsPar3]) rfl) ⟨15, .chain⟩ (by simp [opsPar3]) rfl) ⟨12, .chain⟩ (by simp [opsPar3]) rfl) ⟨9, .chain⟩ (by simp [opsPar3]) rfl)
    have hf4 : flagsOf par3C L 4 = true := (flagsOf_at (C := par3C) (j := 4) rfl L).trans (hcl 15 _ rfl (hcl 18 _ rfl (hcl 21 _ rfl (hdep ⟨21, .chain⟩ (by simp) rfl) ⟨18, .chain⟩ (by simp [opsPar3]) rfl) ⟨15, .chain⟩ (by simp [opsPar3]) rfl) ⟨12, .chain⟩ (by simp [opsPar3]) rfl)
    have hf5 : flagsOf par3C L 5 = true := (flagsOf_at (C := par3C) (j := 5) rfl L).trans (hcl 18 _ rfl (hcl 21 _ rfl (hdep ⟨21, .chain⟩ (by simp) rfl) ⟨18, .chain⟩ (by simp [opsPar3]) rfl) ⟨15, .chain⟩ (by simp [opsPar3]) rfl)
    have hf6 : flagsOf par3C L 6 = true := (flagsOf_at (C := par3C) (j := 6) rfl L).trans (hcl 21 _ rfl (hdep ⟨21, .chain⟩ (by simp) rfl) ⟨18, .chain⟩ (by simp [opsPar3]) rfl)
    have hf7 : flagsOf par3C L 7 = true := (flagsOf_at (C := par3C) (j := 7) rfl L).trans (hdep ⟨21, .chain⟩ (by simp) rfl)
    have hf8 : flagsOf par3C L 8 = false := (flagsOf_at (C := par3C) (j := 8) rfl L).trans hLi
    have hf10 : flagsOf par3C L 10 = false := (flagsOf_at (C := par3C) (j := 10) rfl L).trans (by
      cases hl : L 29 with
      | false => rfl
      | true => exact absurd (hcl 29 _ rfl (hl) ⟨25, .chain⟩ (by simp [opsPar3]) rfl) (by rw [hLi]; decide))
    have hfin := fun v w' hs => hK v w' (hG.call 8 (25, 34) rfl (by kernel_rfl) v w' hs)
    have HK := Lib.hid hfin
    generalize (resOf par3C fun t => a.eval (.tmp t)) = R at *
    generalize flagsOf par3C L = f at *
    clear hG hcl hdep hfr hK hfin hLi
    have hc := Lib.hid (c8 _ _ _ hSj hf8)
    clear hSj hsz z1 z2 c0 c1 c2 c3 c4 c5 c6 c7 c8 c9 c10 hv hqp1 hqp2 hqp3 hqp4 hqp5 hqp6 hqp7 hqp8
    go_simp
    go_at_call 23
    refine hc.out.mono ?_
    rintro e w' ⟨v, rfl, hs⟩
    exact HK.out v w' hs
  | 26, ho =>
    simp only [opsPar3, List.getElem?_toArray, List.getElem?_cons_succ, List.getElem?_cons_zero, Option.some.injEq] at ho
    subst ho
    have x31 : a.tmps[31]?.getD undef = .int .i64 (zh * 60) := by rw [← ev]; exact hG.val 14 22 31 _ rfl (hdep ⟨22, .data⟩ (by simp) rfl)
    rw [if_pos (show Region.wanted _ _ = true from rfl)]
    have hSp := hG.1
    have hf0 : flagsOf par3C L 0 = true := (flagsOf_at (C := par3C) (j := 0) rfl L).trans (hcl 3 _ rfl (hcl 6 _ rfl (hcl 9 _ rfl (hcl 12 _ rfl (hcl 15 _ rfl (hcl 18 _ rfl (hcl 21 _ rfl (hcl 22 _ rfl (hdep ⟨22, .data⟩ (by simp) rfl) ⟨21, .data⟩ (by simp [opsPar3]) rfl) ⟨18, .chain⟩ (by simp [opsPar3]) rfl) ⟨15, .chain⟩ (by simp [opsPar3]) rfl) ⟨12, .chain⟩ (by simp [opsPar3]) rfl) ⟨9, .chain⟩ (by simp [opsPar3]) rfl) ⟨6, .chain⟩ (by simp [opsPar3]) rfl) ⟨3, .chain⟩ (by simp [opsPar3]) rfl) ⟨2, .data⟩ (by simp [opsPar3]) rfl)
    have hf1 : flagsOf par3C L 1 = true := (flagsOf_at (C := par3C) (j := 1) rfl L).trans (hcl 6 _ rfl (hcl 9 _ rfl (hcl 12 _ rfl (hcl 15 _ rfl (hcl 18 _ rfl (hcl 21 _ rfl (hcl 22 _ rfl (hdep ⟨22, .data⟩ (by simp) rfl) ⟨21, .data⟩ (by simp [opsPar3]) rfl) ⟨18, .chain⟩ (by simp [opsPar3]) rfl) ⟨15, .chain⟩ (by simp [opsPar3]) rfl) ⟨12, .chain⟩ (by simp [opsPar3]) rfl) ⟨9, .chain⟩ (by simp [opsPar3]) rfl) ⟨6, .chain⟩ (by simp [opsPar3]) rfl) ⟨3, .chain⟩ (by simp [opsPar3]) rfl)
    have hf2 : flagsOf par3C L 2 = true := (flagsOf_at (C := par3C) (j := 2) rfl L).trans (hcl 9 _ rfl (hcl 12 _ rfl (hcl 15 _ rfl (hcl 18 _ rfl (hcl 21 _ rfl (hcl 22 _ rfl (hdep ⟨22, .data⟩ (by simp) rfl) ⟨21, .data⟩ (by simp [opsPar3]) rfl) ⟨18, .chain⟩ (by simp [opsPar3]) rfl) ⟨15, .chain⟩ (by simp [opsPar3]) rfl) ⟨12, .chain⟩ (by simp [opsPar3]) rfl) ⟨9, .chain⟩ (by simp [opsPar3]) rfl) ⟨6, .chain⟩ (by simp [opsPar3]) rfl)
    have hf3 : flagsOf par3C L 3 = true := (flagsOf_at (C := par3C) (j := 3) rfl L).trans (hcl 12 _ rfl (hcl 15 _ rfl (hcl 18 _ rfl (hcl 21 _ rfl (hcl 22 _ rfl (hdep ⟨22, .data⟩ (by simp) rfl) ⟨21, .data⟩ (by simp [opsPar3]) rfl) ⟨18, .chain⟩ (by simp [opsPar3]) rfl) ⟨15, .chain⟩ (by simp [opsPar3]) rfl) ⟨12, .chain⟩ (by simp [opsPar3]) rfl) ⟨9, .chain⟩ (by simp [opsPar3]) rfl)
    have hf4 : flagsOf par3C L 4 = true := (flagsOf_at (C := par3C) (j := 4) rfl L).trans (hcl 15 _ rfl (hcl 18 _ rfl (hcl 21 _ rfl (hcl 22 _ rfl (hdep ⟨22, .data⟩ (by simp) rfl) ⟨21, .data⟩ (by simp [opsPar3]) rfl) ⟨18, .chain⟩ (by simp [opsPar3]) rfl) ⟨15, .chain⟩ (by simp [opsPar3]) rfl) ⟨12, .chain⟩ (by simp [opsPar3]) rfl)
    have hf5 : flagsOf par3C L 5 = true := (flagsOf_at (C := par3C) (j := 5) rfl L).trans (hcl 18 _ rfl (hcl 21 _ rfl (hcl 22 _ rfl (hdep ⟨22, .data⟩ (by simp) rfl) ⟨21, .data⟩ (by simp [opsPar3]) rfl) ⟨18, .chain⟩ (by simp [opsPar3]) rfl) ⟨15, .chain⟩ (by simp [opsPar3]) rfl)
    have hf6 : flagsOf par3C L 6 = true := (flagsOf_at (C := par3C) (j := 6) rfl L).trans (hcl 21 _ rfl (hcl 22 _ rfl (hdep ⟨22, .data⟩ (by simp) rfl) ⟨21, .data⟩ (by simp [opsPar3]) rfl) ⟨18, .chain⟩ (by simp [opsPar3]) rfl)
    have hf7 : flagsOf par3C L 7 = true := (flagsOf_at (C := par3C) (j := 7) rfl L).trans (hcl 22 _ rfl (hdep ⟨22, .data⟩ (by simp) rfl) ⟨21, .data⟩ (by simp [opsPar3]) rfl)
    have hf8 : flagsOf par3C L 8 = true := (flagsOf_at (C := par3C) (j := 8) rfl L).trans (hdep ⟨25, .data⟩ (by simp) rfl)
    have hf10 : flagsOf par3C L 10 = false := (flagsOf_at (C := par3C) (j := 10) rfl L).trans (by
      cases hl : L 29 with
      | false => rfl
      | true => exact absurd (hcl 29 _ rfl (hl) ⟨26, .phase⟩ (by simp [opsPar3]) rfl) (by rw [hLi]; decide))
    have r34 : a.tmps[34]?.getD undef = resOf par3C (fun t => a.eval (.tmp t)) 8 := by rw [← ev]; exact (resOf_at (C := par3C) (j := 8) rfl a).symm
    have hfin := hK (.int .i64 (zh * 60 + zm)) w (hG.quiet 17 26 35 _ rfl (by kernel_rfl) (by kernel_rfl))
    have HK := Lib.hid hfin
    generalize (resOf par3C fun t => a.eval (.tmp t)) = R at *
    generalize flagsOf par3C L = f at *
    rw [hv _ _ _ hSp 8 _ hf8 rfl] at r34
    clear hsz z1 c0 c1 c2 c3 c4 c5 c6 c7 c8 c9 c10 hv hqp1 hqp2 hqp3 hqp4 hqp5 hqp6 hqp7 hqp8
    clear hSp
    clear hG hcl hdep hfr hK hfin hLi 
    go_simp
    exact HK.out
  | 27, ho =>
    simp only [opsPar3, List.getElem?_toArray, List.getElem?_cons_succ, List.getElem?_cons_zero, Option.some.injEq] at ho
    subst ho
    have x35 : a.tmps[35]?.getD undef = .int .i64 (zh * 60 + zm) := by rw [← ev]; exact hG.val 17 26 35 _ rfl (hdep ⟨26, .data⟩ (by simp) rfl)
    rw [if_pos (show Region.wanted _ _ = true from rfl)]
    have hSp := hG.1
    have hf0 : flagsOf par3C L 0 = true := (flagsOf_at (C := par3C) (j := 0) rfl L).trans (hcl 3 _ rfl (hdep ⟨3, .data⟩ (by simp) rfl) ⟨2, .data⟩ (by simp [opsPar3]) rfl)
    have hf1 : flagsOf par3C L 1 = true := (flagsOf_at (C := par3C) (j := 1) rfl L).trans (hdep ⟨3, .data⟩ (by simp) rfl)
    have hf2 : flagsOf par3C L 2 = true := (flagsOf_at (C := par3C) (j := 2) rfl L).trans (hdep ⟨6, .data⟩ (by simp) rfl)
    have hf3 : flagsOf par3C L 3 = true := (flagsOf_at (C := par3C) (j := 3) rfl L).trans (hdep ⟨9, .data⟩ (by simp) rfl)
    have hf4 : flagsOf par3C L 4 = true := (flagsOf_at (C := par3C) (j := 4) rfl L).trans (hdep ⟨12, .data⟩ (by simp) rfl)
    have hf5 : flagsOf par3C L 5 = true := (flagsOf_at (C := par3C) (j := 5) rfl L).trans (hdep ⟨15, .data⟩ (by simp) rfl)
    have hf6 : flagsOf par3C L 6 = true := (flagsOf_at (C := par3C) (j := 6) rfl L).trans (hdep ⟨18, .data⟩ (by simp) rfl)
    have hf7 : flagsOf par3C L 7 = true := (flagsOf_at (C := par3C) (j := 7) rfl L).trans (hcl 22 _ rfl (hcl 26 _ rfl (hdep ⟨26, .data⟩ (by simp) rfl) ⟨22, .data⟩ (by simp [opsPar3]) rfl) ⟨21, .data⟩ (by simp [opsPar3]) rfl)
    have hf8 : flagsOf par3C L 8 = true := (flagsOf_at (C := par3C) (j := 8) rfl L).trans (hcl 26 _ rfl (hdep ⟨26, .data⟩ (by simp) rfl) ⟨25, .data⟩ (by simp [opsPar3]) rfl)
    have hf10 : flagsOf par3C L 10 = false := (flagsOf_at (C := par3C) (j := 10) rfl L).trans (by
      cases hl : L 29 with
      | false => rfl
      | true => exact absurd (hcl 29 _ rfl (hl) ⟨27, .data⟩ (by simp [opsPar3]) rfl) (by rw [hLi]; decide))
    have r12 : a.tmps[12]?.getD undef = resOf par3C (fun t => a.eval (.tmp t)) 1 := by rw [← ev]; exact (resOf_at (C := par3C) (j := 1) rfl a).symm
    have r15 : a.tmps[15]?.getD undef = resOf par3C (fun t => a.eval (.tmp t)) 2 := by rw [← ev]; exact (resOf_at (C := par3C) (j := 2) rfl a).symm
    have r18 : a.tmps[18]?.getD undef = resOf par3C (fun t => a.eval (.tmp t)) 3 := by rw [← ev]; exact (resOf_at (C := par3C) (j := 3) rfl a).symm
    have r21 : a.tmps[21]?.getD undef = resOf par3C (fun t => a.eval (.tmp t)) 4 := by rw [← ev]; exact (resOf_at (C := par3C) (j := 4) rfl a).symm
    have r24 : a.tmps[24]?.getD undef = resOf par3C (fun t => a.eval (.tmp t)) 5 := by rw [← ev]; exact (resOf_at (C := par3C) (j := 5) rfl a).symm
    have r27 : a.tmps[27]?.getD undef = resOf par3C (fun t => a.eval (.tmp t)) 6 := by rw [← ev]; exact (resOf_at (C := par3C) (j := 6) rfl a).symm
    have hfin := hK (.agg #[.int .i64 xy, .int .i64 xo, .int .i64 xd, .int .i64 xt, .int .i64 xi, .int .i64 xs, .int .i64 (zh * 60 + zm)]) w (hG.quiet 18 27 36 _ rfl (by kernel_rfl) (by kernel_rfl))
    have HK := Lib.hid hfin
    generalize (resOf par3C fun t => a.eval (.tmp t)) = R at *
    generalize flagsOf par3C L = f at *
    rw [hv _ _ _ hSp 1 _ hf1 rfl] at r12
    rw [hv _ _ _ hSp 2 _ hf2 rfl] at r15
    rw [hv _ _ _ hSp 3 _ hf3 rfl] at r18
    rw [hv _ _ _ hSp 4 _ hf4 rfl] at r21
    rw [hv _ _ _ hSp 5 _ hf5 rfl] at r24
    rw [hv _ _ _ hSp 6 _ hf6 rfl] at r27
    clear hsz z1 z2 c0 c1 c2 c3 c4 c5 c6 c7 c8 c9 c10 hv hqp1 hqp2 hqp3 hqp4 hqp5 hqp6 hqp7 hqp8
    clear hSp
    clear hG hcl hdep hfr hK hfin hLi 
    go_simp
    exact HK.out
  | 28, ho =>
    simp only [opsPar3, List.getElem?_toArray, List.getElem?_cons_succ, List.getElem?_cons_zero, Option.some.injEq] at ho
    subst ho
    rw [if_pos (show Region.wanted _ _ = true from rfl)]
    have hSj := hG.1
    have hf9 : flagsOf par3C L 9 = false := (flagsOf_at (C := par3C) (j := 9) rfl L).trans hLi
    have hf10 : flagsOf par3C L 10 = false := (flagsOf_at (C := par3C) (j := 10) rfl L).trans (by
      cases hl : L 29 with
      | false => rfl
      | true => exact absurd (hcl 29 _ rfl (hl) ⟨28, .data⟩ (by simp [opsPar3]) rfl) (by rw [hLi]; decide))
    have hfin := fun v w' hs => hK v w' (hG.call 9 (28, 4) rfl (by kernel_rfl) v w' hs)
    have HK := Lib.hid hfin
    generalize (resOf par3C fun t => a.eval (.tmp t)) = R at *
    generalize flagsOf par3C L = f at *
    clear hG hcl hdep hfr hK hfin hLi
    have hk := HK.out _ _ (c9 _ _ _ hSj hf9)
    have HK2 := Lib.hid hk
    clear hk HK hSj hsz z1 z2 c0 c1 c2 c3 c4 c5 c6 c7 c8 c9 c10 hv hqp1 hqp2 hqp3 hqp4 hqp5 hqp6 hqp7 hqp8
    go_simp
    exact HK2.out
  | 29, ho =>
    simp only [opsPar3, List.getElem?_toArray, List.getElem?_cons_succ, List.getElem?_cons_zero, Option.some.injEq] at ho
    subst ho
    have x36 : a.tmps[36]?.getD undef = .agg #[.int .i64 xy, .int .i64 xo, .int .i64 xd, .int .i64 xt, .int .i64 xi, .int .i64 xs, .int .i64 (zh * 60 + zm)] := by rw [← ev]; exact hG.val 18 27 36 _ rfl (hdep ⟨27, .data⟩ (by simp) rfl)
    rw [if_pos (show Region.wanted _ _ = true from rfl)]
    have hSj := hG.1
    have hf0 : flagsOf par3C L 0 = true := (flagsOf_at (C := par3C) (j := 0) rfl L).trans (hdep ⟨2, .phase⟩ (by simp) rfl)
    have hf1 : flagsOf par3C L 1 = true := (flagsOf_at (C := par3C) (j := 1) rfl L).trans (hdep ⟨3, .phase⟩ (by simp) rfl)
    have hf2 : flagsOf par3C L 2 = true := (flagsOf_at (C := par3C) (j := 2) rfl L).trans (hdep ⟨6, .phase⟩ (by simp) rfl)
    have hf3 : flagsOf par3C L 3 = true := (flagsOf_at (C := par3C) (j := 3) rfl L).trans (hdep ⟨9, .phase⟩ (by simp) rfl)
    have hf4 : flagsOf par3C L 4 = true := (flagsOf_at (C := par3C) (j := 4) rfl L).trans (hdep ⟨12, .phase⟩ (by simp) rfl)
    have hf5 : flagsOf par3C L 5 = true := (flagsOf_at (C := par3C) (j := 5) rfl L).trans (hdep ⟨15, .phase⟩ (by simp) rfl)
    have hf6 : flagsOf par3C L 6 = true := (flagsOf_at (C := par3C) (j := 6) rfl L).trans (hdep ⟨18, .phase⟩ (by simp) rfl)
    have hf7 : flagsOf par3C L 7 = true := (flagsOf_at (C := par3C) (j := 7) rfl L).trans (hdep ⟨21, .phase⟩ (by simp) rfl)
    have hf8 : flagsOf par3C L 8 = true := (flagsOf_at (C := par3C) (j := 8) rfl L).trans (hdep ⟨25, .chain⟩ (by simp) rfl)
    have hf9 : flagsOf par3C L 9 = true := (flagsOf_at (C := par3C) (j := 9) rfl L).trans (hdep ⟨28, .data⟩ (by simp) rfl)
    have hf10 : flagsOf par3C L 10 = false := (flagsOf_at (C := par3C) (j := 10) rfl L).trans hLi
    have r4 : a.tmps[4]?.getD undef = resOf par3C (fun t => a.eval (.tmp t)) 9 := by rw [← ev]; exact (resOf_at (C := par3C) (j := 9) rfl a).symm
    have hfin := fun w' hs => hK undef w' (hG.store 10 (29, 1000029) rfl (by kernel_rfl) undef w' hs)
    have HK := Lib.hid hfin
    generalize (resOf par3C fun t => a.eval (.tmp t)) = R at *
    generalize flagsOf par3C L = f at *
    clear hG hcl hdep hfr hK hfin hLi
    obtain ⟨g, e9, hz, hs⟩ := c10 _ _ _ hSj hf9 hf10
    rw [e9] at r4
    have hk := HK.out _ hs
    have HK2 := Lib.hid hk
    obtain ⟨q0, y0⟩ := hz 0 (by decide)
    obtain ⟨q1, y1⟩ := hz 1 (by decide)
    obtain ⟨q2, y2⟩ := hz 2 (by decide)
    obtain ⟨q3, y3⟩ := hz 3 (by decide)
    obtain ⟨q4, y4⟩ := hz 4 (by decide)
    obtain ⟨q5, y5⟩ := hz 5 (by decide)
    obtain ⟨q6, y6⟩ := hz 6 (by decide)
    clear hz hs hk HK hSj e9 hsz z1 z2 c0 c1 c2 c3 c4 c5 c6 c7 c8 c9 c10 hv hqp1 hqp2 hqp3 hqp4 hqp5 hqp6 hqp7 hqp8
    go_simp
    exact HK2.out
  | n + 30, ho => exact absurd (Array.getElem?_eq_some_iff.1 ho).1 (by show ¬ n + 30 < 30; omega)
end Go.Proofs.YtgkibkophoikoaaDoor
