/- KvPl9, KvPl13, KvPl21a, KvPl21b, KvPlS, KvPlT: these texts in one. -/
import Derived.Test.YtgpkdnnlgafenaaVals
import Derived.Test.YtgpkdnnlgafenaaAppend
import Derived.WalkKit
import Derived.WalkSpells
import Derived.WalkLawsBesides
import Derived.Lib.Hide
import Derived.Test.YtgpkdnnlgafenaaKvPlA
import Derived.Test.YtgpkdnnlgafenaaKvRefAll
namespace Go.Proofs.Ytgpkdnnlgafenaa
open Go.RowKit
set_option linter.unusedVariables false
set_option linter.unusedSimpArgs false

def opsKpl9 : Array Oper := #[
  { dst := some 55, op := Op.move (Operand.tmp 11), type := 23, pos := "law.go:90", after := #[], guard := none },
  { dst := some 56, op := Op.move (Operand.tmp 0), type := 40, pos := "law.go:90", after := #[], guard := none },
  { dst := some 57, op := Op.move (Operand.tmp 13), type := 3, pos := "law.go:90", after := #[], guard := none },
  { dst := some 58, op := Op.indexAddr 40 (Operand.tmp 56) (Operand.tmp 57), type := 0, pos := "law.go:90", after := #[{ on := 1, ground := Ground.data }, { on := 2, ground := Ground.data }], guard := none },
  { dst := some 59, op := Op.load 31 (Operand.tmp 58), type := 31, pos := "law.go:90", after := #[{ on := 3, ground := Ground.data }], guard := none },
  { dst := some 60, op := Op.call { callee := Callee.value (Operand.func 10), args := #[Operand.tmp 55, Operand.tmp 59], argTypes := #[23, 31] }, type := 25, pos := "law.go:90", after := #[{ on := 0, ground := Ground.data }, { on := 4, ground := Ground.data }], guard := none },
  { dst := some 61, op := Op.move (Operand.tmp 12), type := 42, pos := "law.go:90", after := #[], guard := none },
  { dst := some 62, op := Op.move (Operand.tmp 0), type := 40, pos := "law.go:90", after := #[], guard := none },
  { dst := some 63, op := Op.move (Operand.tmp 13), type := 3, pos := "law.go:90", after := #[], guard := none },
  { dst := some 64, op := Op.indexAddr 40 (Operand.tmp 62) (Operand.tmp 63), type := 0, pos := "law.go:90", after := #[{ on := 7, ground := Ground.data }, { on := 8, ground := Ground.data }], guard := none },
  { dst := some 65, op := Op.load 31 (Operand.tmp 64), type := 31, pos := "law.go:90", after := #[{ on := 9, ground := Ground.data }], guard := none },
  { dst := some 66, op := Op.call { callee := Callee.value (Operand.func 19), args := #[Operand.tmp 65], argTypes := #[31] }, type := 47, pos := "law.go:90", after := #[{ on := 10, ground := Ground.data }, { on := 5, ground := Ground.chain }], guard := none },
  { dst := some 67, op := Op.call { callee := Callee.value (Operand.func 18), args := #[Operand.tmp 61, Operand.tmp 66], argTypes := #[42, 47] }, type := 25, pos := "law.go:90", after := #[{ on := 6, ground := Ground.data }, { on := 11, ground := Ground.data }, { on := 11, ground := Ground.chain }], guard := none },
  { dst := some 68, op := Op.binOp BinOp.neq 25 (Operand.tmp 60) (Operand.tmp 67) 25, type := 4, pos := "law.go:90", after := #[{ on := 5, ground := Ground.data }, { on := 12, ground := Ground.data }], guard := none },
  { dst := some 69, op := Op.move (Operand.tmp 68), type := 4, pos := "law.go:90", after := #[{ on := 13, ground := Ground.data }, { on := 12, ground := Ground.chain }], guard := none },
  { dst := some 70, op := Op.move (Operand.tmp 0), type := 40, pos := "law.go:90", after := #[{ on := 14, ground := Ground.guard }], guard := some (14, false) },
  { dst := some 71, op := Op.move (Operand.tmp 13), type := 3, pos := "law.go:90", after := #[{ on := 14, ground := Ground.guard }], guard := some (14, false) },
  { dst := some 72, op := Op.indexAddr 40 (Operand.tmp 70) (Operand.tmp 71), type := 0, pos := "law.go:90", after := #[{ on := 15, ground := Ground.data }, { on := 16, ground := Ground.data }, { on := 14, ground := Ground.guard }], guard := some (14, false) },
  { dst := some 73, op := Op.load 31 (Operand.tmp 72), type := 31, pos := "law.go:90", after := #[{ on := 17, ground := Ground.data }, { on := 14, ground := Ground.guard }], guard := some (14, false) },
  { dst := some 74, op := Op.call { callee := Callee.value (Operand.func 16), args := #[Operand.tmp 73], argTypes := #[31] }, type := 27, pos := "law.go:90", after := #[{ on := 18, ground := Ground.data }, { on := 14, ground := Ground.chain }, { on := 14, ground := Ground.guard }], guard := some (14, false) },
  { dst := some 75, op := Op.convert 27 9 (Operand.tmp 74), type := 9, pos := "law.go:90", after := #[{ on := 19, ground := Ground.data }, { on := 14, ground := Ground.guard }], guard := some (14, false) },
  { dst := some 76, op := Op.move (Operand.tmp 0), type := 40, pos := "law.go:90", after := #[{ on := 14, ground := Ground.guard }], guard := some (14, false) },
  { dst := some 77, op := Op.move (Operand.tmp 13), type := 3, pos := "law.go:90", after := #[{ on := 14, ground := Ground.guard }], guard := some (14, false) },
  { dst := some 78, op := Op.indexAddr 40 (Operand.tmp 76) (Operand.tmp 77), type := 0, pos := "law.go:90", after := #[{ on := 21, ground := Ground.data }, { on := 22, ground := Ground.data }, { on := 14, ground := Ground.guard }], guard := some (14, false) },
  { dst := some 79, op := Op.load 31 (Operand.tmp 78), type := 31, pos := "law.go:90", after := #[{ on := 23, ground := Ground.data }, { on := 14, ground := Ground.guard }], guard := some (14, false) },
  { dst := some 80, op := Op.call { callee := Callee.value (Operand.func 19), args := #[Operand.tmp 79], argTypes := #[31] }, type := 47, pos := "law.go:90", after := #[{ on := 24, ground := Ground.data }, { on := 19, ground := Ground.chain }, { on := 14, ground := Ground.guard }], guard := some (14, false) },
  { dst := some 81, op := Op.call { callee := Callee.value (Operand.func 20), args := #[Operand.tmp 80], argTypes := #[47] }, type := 27, pos := "law.go:90", after := #[{ on := 25, ground := Ground.data }, { on := 25, ground := Ground.chain }, { on := 14, ground := Ground.guard }], guard := some (14, false) },
  { dst := some 82, op := Op.convert 27 9 (Operand.tmp 81), type := 9, pos := "law.go:90", after := #[{ on := 26, ground := Ground.data }, { on := 14, ground := Ground.guard }], guard := some (14, false) },
  { dst := some 83, op := Op.binOp BinOp.neq 9 (Operand.tmp 75) (Operand.tmp 82) 9, type := 4, pos := "law.go:90", after := #[{ on := 20, ground := Ground.data }, { on := 27, ground := Ground.data }, { on := 14, ground := Ground.guard }], guard := some (14, false) },
  { dst := some 84, op := Op.pick (Operand.tmp 69) (Operand.const (Value.bool true)) (Operand.tmp 83), type := 4, pos := "law.go:90", after := #[{ on := 14, ground := Ground.data }, { on := 28, ground := Ground.data }], guard := none }]

def kpl9Vals (t u g o i N cN n c nb : Nat) (A : Option Addr) (ec : Int) (bs : ByteArray) : List (Nat × Nat × Value) := [(0, 55, .pointer (some ⟨t, 0, none⟩)), (1, 56, .slice (some ⟨g, o, none⟩) N cN), (2, 57, .int .i64 (i : Int)), (3, 58, .pointer (some ⟨g, o + i, none⟩)), (4, 59, .slice A n c), (6, 61, .pointer (some ⟨u, 0, none⟩)), (7, 62, .slice (some ⟨g, o, none⟩) N cN), (8, 63, .int .i64 (i : Int)), (9, 64, .pointer (some ⟨g, o + i, none⟩)), (10, 65, .slice A n c), (13, 68, .bool false), (14, 69, .bool false), (15, 70, .slice (some ⟨g, o, none⟩) N cN), (16, 71, .int .i64 (i : Int)), (17, 72, .pointer (some ⟨g, o + i, none⟩)), (18, 73, .slice A n c), (20, 75, .string bs), (21, 76, .slice (some ⟨g, o, none⟩) N cN), (22, 77, .int .i64 (i : Int)), (23, 78, .pointer (some ⟨g, o + i, none⟩)), (24, 79, .slice A n c), (27, 82, .string bs), (28, 83, .bool false), (29, 84, .bool false)]
def kpl9C : List (Nat × Nat) := [(5, 60), (11, 66), (12, 67), (19, 74), (25, 80), (26, 81)]

set_option maxHeartbeats 8000000 in
set_option maxRecDepth 100000 in
theorem kpl9 {Q : Exit → Act → World → Prop} {a0 : Act} {wp : World} (t u g o i N cN n c nb : Nat) (A : Option Addr) (ec : Int) (bs : ByteArray) (S : Nat → (Nat → Value) → World → Prop)
    (hsz : 84 < a0.tmps.size) (in0 : a0.eval (.tmp 0) = .slice (some ⟨g, o, none⟩) N cN) (in11 : a0.eval (.tmp 11) = .pointer (some ⟨t, 0, none⟩)) (in12 : a0.eval (.tmp 12) = .pointer (some ⟨u, 0, none⟩)) (in13 : a0.eval (.tmp 13) = .int .i64 (i : Int))
    (hiN : (i : Int) < (N : Int)) (hx : ∀ p R w, S p R w → w.cell? ⟨g, o + i, none⟩ = some (.slice A n c))
    (hv : ∀ p R w, S p R w → ∀ k, k < p → k = 0 ∨ k = 2 → R k = .int .i64 ec)
    (hcv : ∀ p R w, S p R w → ∀ k, k < p → k = 3 ∨ k = 5 → ∃ A c, R k = .slice A nb c ∧ (convert 27 9 (.slice A nb c)).run Try.prog w = .ok (.string bs) w)
    (hc0 : ∀ R w, S 0 R w → Calls Try.prog 10 #[.pointer (some ⟨t, 0, none⟩), .slice A n c] w fun e w' => ∃ v, e = .returned v ∧ S 1 (setR R 0 v) w')
    (hc1 : ∀ R w, S 1 R w → Calls Try.prog 19 #[.slice A n c] w fun e w' => ∃ v, e = .returned v ∧ S 2 (setR R 1 v) w')
    (hc2 : ∀ R w, S 2 R w → Calls Try.prog 18 #[.pointer (some ⟨u, 0, none⟩), R 1] w fun e w' => ∃ v, e = .returned v ∧ S 3 (setR R 2 v) w')
    (hc3 : ∀ R w, S 3 R w → Calls Try.prog 16 #[.slice A n c] w fun e w' => ∃ v, e = .returned v ∧ S 4 (setR R 3 v) w')
    (hc4 : ∀ R w, S 4 R w → Calls Try.prog 19 #[.slice A n c] w fun e w' => ∃ v, e = .returned v ∧ S 5 (setR R 4 v) w')
    (hc5 : ∀ R w, S 5 R w → Calls Try.prog 20 #[R 4] w fun e w' => ∃ v, e = .returned v ∧ S 6 (setR R 5 v) w')
    (hS : S 0 (resOf kpl9C fun t => a0.eval (.tmp t)) wp.drew)
    (fin : ∀ a w, Fr [55, 56, 57, 58, 59, 60, 61, 62, 63, 64, 65, 66, 67, 68, 69, 70, 71, 72, 73, 74, 75, 76, 77, 78, 79, 80, 81, 82, 83, 84] a0 a → a.eval (.tmp 84) = .bool false → S 6 (resOf kpl9C fun t => a.eval (.tmp t)) w → Q .normal a w) :
    (Code.region 9 opsKpl9 true).wp Try.prog Q a0 wp := by
  refine region_inv (by kernel_rfl) [55, 56, 57, 58, 59, 60, 61, 62, 63, 64, 65, 66, 67, 68, 69, 70, 71, 72, 73, 74, 75, 76, 77, 78, 79, 80, 81, 82, 83, 84] (by kernel_rfl) (by kernel_rfl) (fun t ht => by simp at ht; omega) (GV (kpl9Vals t u g o i N cN n c nb A ec bs) kpl9C S) (.start hS) ?_
    (fun L a w hf hall hG => fin a w hf (hG.val 23 29 84 _ rfl (hall 29 (by decide))) (hG.fin (fun c hc => by simp [kpl9C] at hc; rcases hc with rfl | rfl | rfl | rfl | rfl | rfl <;> exact hall _ (by decide))))
  clear hS fin
  intro ix oo ho L a w hfr hG hLi hdep hcl K hK
  have e0 : a.tmps[0]?.getD undef = .slice (some ⟨g, o, none⟩) N cN := by rw [← ev]; exact (hfr.same 0 (by decide)).trans in0
  have e11 : a.tmps[11]?.getD undef = .pointer (some ⟨t, 0, none⟩) := by rw [← ev]; exact (hfr.same 11 (by decide)).trans in11
  have e12 : a.tmps[12]?.getD undef = .pointer (some ⟨u, 0, none⟩) := by rw [← ev]; exact (hfr.same 12 (by decide)).trans in12
  have e13 : a.tmps[13]?.getD undef = .int .i64 (i : Int) := by rw [← ev]; exact (hfr.same 13 (by decide)).trans in13
  clear in0 in11 in12 in13
  match ix, ho with
  | 0, ho =>
    simp only [opsKpl9, List.getElem?_toArray, List.getElem?_cons_zero, Option.some.injEq] at ho
    subst ho
    rw [if_pos (show Region.wanted _ _ = true from rfl)]
    have hfin := hK (.pointer (some ⟨t, 0, none⟩)) w (hG.quiet 0 0 55 _ rfl (by kernel_rfl) (by kernel_rfl))
    have HK := Lib.hid hfin
    clear hG hcl hdep hfr hK hfin hLi 
    go_simp
    exact HK.out
  | 1, ho =>
    simp only [opsKpl9, List.getElem?_toArray, List.getElem?_cons_succ, List.getElem?_cons_zero, Option.some.injEq] at ho
    subst ho
    rw [if_pos (show Region.wanted _ _ = true from rfl)]
    have hfin := hK (.slice (some ⟨g, o, none⟩) N cN) w (hG.quiet 1 1 56 _ rfl (by kernel_rfl) (by kernel_rfl))
    have HK := Lib.hid hfin
    clear hG hcl hdep hfr hK hfin hLi 
    go_simp
    exact HK.out
  | 2, ho =>
    simp only [opsKpl9, List.getElem?_toArray, List.getElem?_cons_succ, List.getElem?_cons_zero, Option.some.injEq] at ho
    subst ho
    rw [if_pos (show Region.wanted _ _ = true from rfl)]
    have hfin := hK (.int .i64 (i : Int)) w (hG.quiet 2 2 57 _ rfl (by kernel_rfl) (by kernel_rfl))
    have HK := Lib.hid hfin
    clear hG hcl hdep hfr hK hfin hLi 
    go_simp
    exact HK.out
  | 3, ho =>
    simp only [opsKpl9, List.getElem?_toArray, List.getElem?_cons_succ, List.getElem?_cons_zero, Option.some.injEq] at ho
    subst ho
    have x56 : a.tmps[56]?.getD undef = .slice (some ⟨g, o, none⟩) N cN := by rw [← ev]; exact hG.val 1 1 56 _ rfl (hdep ⟨1, .data⟩ (by simp) rfl)
    have x57 : a.tmps[57]?.getD undef = .int .i64 (i : Int) := by rw [← ev]; exact hG.val 2 2 57 _ rfl (hdep ⟨2, .data⟩ (by simp) rfl)
    rw [if_pos (show Region.wanted _ _ = true from rfl)]
    obtain ⟨ph, hSp, hdone⟩ := hG.any
    have hfin := hK (.pointer (some ⟨g, o + i, none⟩)) w (hG.quiet 3 3 58 _ rfl (by kernel_rfl) (by kernel_rfl))
    have HK := Lib.hid hfin
    generalize (resOf kpl9C fun t => a.eval (.tmp t)) = R at *
    clear hx hv hcv hc0 hc1 hc2 hc3 hc4 hc5
    clear hSp hdone
    clear hG hcl hdep hfr hK hfin hLi 
    go_simp
    exact HK.out
  | 4, ho =>
    simp only [opsKpl9, List.getElem?_toArray, List.getElem?_cons_succ, List.getElem?_cons_zero, Option.some.injEq] at ho
    subst ho
    have x58 : a.tmps[58]?.getD undef = .pointer (some ⟨g, o + i, none⟩) := by rw [← ev]; exact hG.val 3 3 58 _ rfl (hdep ⟨3, .data⟩ (by simp) rfl)
    rw [if_pos (show Region.wanted _ _ = true from rfl)]
    obtain ⟨ph, hSp, hdone⟩ := hG.any
    have hfin := hK (.slice A n c) w (hG.quiet 4 4 59 _ rfl (by kernel_rfl) (by kernel_rfl))
    have HK := Lib.hid hfin
    generalize (resOf kpl9C fun t => a.eval (.tmp t)) = R at *
    have q1 := hx _ _ _ hSp
    clear hiN hx hv hcv hc0 hc1 hc2 hc3 hc4 hc5
    clear hSp hdone
    clear hG hcl hdep hfr hK hfin hLi 
    go_simp
    exact HK.out
  | 5, ho =>
    simp only [opsKpl9, List.getElem?_toArray, List.getElem?_cons_succ, List.getElem?_cons_zero, Option.some.injEq] at ho
    subst ho
    have x55 : a.tmps[55]?.getD undef = .pointer (some ⟨t, 0, none⟩) := by rw [← ev]; exact hG.val 0 0 55 _ rfl (hdep ⟨0, .data⟩ (by simp) rfl)
    have x59 : a.tmps[59]?.getD undef = .slice A n c := by rw [← ev]; exact hG.val 4 4 59 _ rfl (hdep ⟨4, .data⟩ (by simp) rfl)
    rw [if_pos (show Region.wanted _ _ = true from rfl)]
    have hSj := hG.at 0 (5, 60) rfl hLi (fun c h0 hc => absurd h0 (by decide))
    have hfin := fun v w' hs => hK v w' (hG.call 0 (5, 60) rfl hLi (fun c h0 hc => absurd h0 (by decide)) (by kernel_rfl) v w' hs)
    have HK := Lib.hid hfin
    generalize (resOf kpl9C fun t => a.eval (.tmp t)) = R at *
    clear hG hcl hdep hfr hK hfin hLi
    have hc := Lib.hid (hc0 _ _ hSj)
    clear hSj hiN hx hv hcv hc0 hc1 hc2 hc3 hc4 hc5
    go_simp
    go_at_call 10
    refine hc.out.mono ?_
    rintro e w' ⟨v, rfl, hs⟩
    exact HK.out v w' hs
  | 6, ho =>
    simp only [opsKpl9, List.getElem?_toArray, List.getElem?_cons_succ, List.getElem?_cons_zero, Option.some.injEq] at ho
    subst ho
    rw [if_pos (show Region.wanted _ _ = true from rfl)]
    have hfin := hK (.pointer (some ⟨u, 0, none⟩)) w (hG.quiet 5 6 61 _ rfl (by kernel_rfl) (by kernel_rfl))
    have HK := Lib.hid hfin
    clear hG hcl hdep hfr hK hfin hLi 
    go_simp
    exact HK.out
  | 7, ho =>
    simp only [opsKpl9, List.getElem?_toArray, List.getElem?_cons_succ, List.getElem?_cons_zero, Option.some.injEq] at ho
    subst ho
    rw [if_pos (show Region.wanted _ _ = true from rfl)]
    have hfin := hK (.slice (some ⟨g, o, none⟩) N cN) w (hG.quiet 6 7 62 _ rfl (by kernel_rfl) (by kernel_rfl))
    have HK := Lib.hid hfin
    clear hG hcl hdep hfr hK hfin hLi 
    go_simp
    exact HK.out
  | 8, ho =>
    simp only [opsKpl9, List.getElem?_toArray, List.getElem?_cons_succ, List.getElem?_cons_zero, Option.some.injEq] at ho
    subst ho
    rw [if_pos (show Region.wanted _ _ = true from rfl)]
    have hfin := hK (.int .i64 (i : Int)) w (hG.quiet 7 8 63 _ rfl (by kernel_rfl) (by kernel_rfl))
    have HK := Lib.hid hfin
    clear hG hcl hdep hfr hK hfin hLi 
    go_simp
    exact HK.out
  | 9, ho =>
    simp only [opsKpl9, List.getElem?_toArray, List.getElem?_cons_succ, List.getElem?_cons_zero, Option.some.injEq] at ho
    subst ho
    have x62 : a.tmps[62]?.getD undef = .slice (some ⟨g, o, none⟩) N cN := by rw [← ev]; exact hG.val 6 7 62 _ rfl (hdep ⟨7, .data⟩ (by simp) rfl)
    have x63 : a.tmps[63]?.getD undef = .int .i64 (i : Int) := by rw [← ev]; exact hG.val 7 8 63 _ rfl (hdep ⟨8, .data⟩ (by simp) rfl)
    rw [if_pos (show Region.wanted _ _ = true from rfl)]
    obtain ⟨ph, hSp, hdone⟩ := hG.any
    have hfin := hK (.pointer (some ⟨g, o + i, none⟩)) w (hG.quiet 8 9 64 _ rfl (by kernel_rfl) (by kernel_rfl))
    have HK := Lib.hid hfin
    generalize (resOf kpl9C fun t => a.eval (.tmp t)) = R at *
    clear hx hv hcv hc0 hc1 hc2 hc3 hc4 hc5
    clear hSp hdone
    clear hG hcl hdep hfr hK hfin hLi 
    go_simp
    exact HK.out
  | 10, ho =>
    simp only [opsKpl9, List.getElem?_toArray, List.getElem?_cons_succ, List.getElem?_cons_zero, Option.some.injEq] at ho
    subst ho
    have x64 : a.tmps[64]?.getD undef = .pointer (some ⟨g, o + i, none⟩) := by rw [← ev]; exact hG.val 8 9 64 _ rfl (hdep ⟨9, .data⟩ (by simp) rfl)
    rw [if_pos (show Region.wanted _ _ = true from rfl)]
    obtain ⟨ph, hSp, hdone⟩ := hG.any
    have hfin := hK (.slice A n c) w (hG.quiet 9 10 65 _ rfl (by kernel_rfl) (by kernel_rfl))
    have HK := Lib.hid hfin
    generalize (resOf kpl9C fun t => a.eval (.tmp t)) = R at *
    have q1 := hx _ _ _ hSp
    clear hiN hx hv hcv hc0 hc1 hc2 hc3 hc4 hc5
    clear hSp hdone
    clear hG hcl hdep hfr hK hfin hLi 
    go_simp
    exact HK.out
  | 11, ho =>
    simp only [opsKpl9, List.getElem?_toArray, List.getElem?_cons_succ, List.getElem?_cons_zero, Option.some.injEq] at ho
    subst ho
    have x65 : a.tmps[65]?.getD undef = .slice A n c := by rw [← ev]; exact hG.val 9 10 65 _ rfl (hdep ⟨10, .data⟩ (by simp) rfl)
    rw [if_pos (show Region.wanted _ _ = true from rfl)]
    have hSj := hG.at 1 (11, 66) rfl hLi (fun c h0 hc => by simp [kpl9C] at hc; subst hc; exact hdep ⟨5, .chain⟩ (by simp) rfl)
    have hfin := fun v w' hs => hK v w' (hG.call 1 (11, 66) rfl hLi (fun c h0 hc => by simp [kpl9C] at hc; subst hc; exact hdep ⟨5, .chain⟩ (by simp) rfl) (by kernel_rfl) v w' hs)
    have HK := Lib.hid hfin
    generalize (resOf kpl9C fun t => a.eval (.tmp t)) = R at *
    clear hG hcl hdep hfr hK hfin hLi
    have hc := Lib.hid (hc1 _ _ hSj)
    clear hSj hiN hx hv hcv hc0 hc1 hc2 hc3 hc4 hc5
    go_simp
    go_at_call 19
    refine hc.out.mono ?_
    rintro e w' ⟨v, rfl, hs⟩
    exact HK.out v w' hs
  | 12, ho =>
    simp only [opsKpl9, List.getElem?_toArray, List.getElem?_cons_succ, List.getElem?_cons_zero, Option.some.injEq] at ho
    subst ho
    have x61 : a.tmps[61]?.getD undef = .pointer (some ⟨u, 0, none⟩) := by rw [← ev]; exact hG.val 5 6 61 _ rfl (hdep ⟨6, .data⟩ (by simp) rfl)
    rw [if_pos (show Region.wanted _ _ = true from rfl)]
    have hSj := hG.at 2 (12, 67) rfl hLi (fun c h0 hc => by simp [kpl9C] at hc; subst hc; exact hdep ⟨11, .data⟩ (by simp) rfl)
    have r66 : a.tmps[66]?.getD undef = resOf kpl9C (fun t => a.eval (.tmp t)) 1 := by rw [← ev]; exact (resOf_at (C := kpl9C) (j := 1) rfl a).symm
    have hfin := fun v w' hs => hK v w' (hG.call 2 (12, 67) rfl hLi (fun c h0 hc => by simp [kpl9C] at hc; subst hc; exact hdep ⟨11, .data⟩ (by simp) rfl) (by kernel_rfl) v w' hs)
    have HK := Lib.hid hfin
    generalize (resOf kpl9C fun t => a.eval (.tmp t)) = R at *
    clear hG hcl hdep hfr hK hfin hLi
    have hc := Lib.hid (hc2 _ _ hSj)
    clear hSj hiN hx hv hcv hc0 hc1 hc2 hc3 hc4 hc5
    go_simp
    go_at_call 18
    refine hc.out.mono ?_
    rintro e w' ⟨v, rfl, hs⟩
    exact HK.out v w' hs
  | 13, ho =>
    simp only [opsKpl9, List.getElem?_toArray, List.getElem?_cons_succ, List.getElem?_cons_zero, Option.some.injEq] at ho
    subst ho
    rw [if_pos (show Region.wanted _ _ = true from rfl)]
    obtain ⟨ph, hSp, hdone⟩ := hG.any
    have hd60 : 0 < ph := hdone 0 (5, 60) rfl (hdep ⟨5, .data⟩ (by simp) rfl)
    have r60 : a.tmps[60]?.getD undef = resOf kpl9C (fun t => a.eval (.tmp t)) 0 := by rw [← ev]; exact (resOf_at (C := kpl9C) (j := 0) rfl a).symm
    have hd67 : 2 < ph := hdone 2 (12, 67) rfl (hdep ⟨12, .data⟩ (by simp) rfl)
    have r67 : a.tmps[67]?.getD undef = resOf kpl9C (fun t => a.eval (.tmp t)) 2 := by rw [← ev]; exact (resOf_at (C := kpl9C) (j := 2) rfl a).symm
    have hfin := hK (.bool false) w (hG.quiet 10 13 68 _ rfl (by kernel_rfl) (by kernel_rfl))
    have HK := Lib.hid hfin
    generalize (resOf kpl9C fun t => a.eval (.tmp t)) = R at *
    rw [hv _ _ _ hSp 0 hd60 (by decide)] at r60
    rw [hv _ _ _ hSp 2 hd67 (by decide)] at r67
    clear hiN hx hv hcv hc0 hc1 hc2 hc3 hc4 hc5 hd60 hd67
    clear hSp hdone
    clear hG hcl hdep hfr hK hfin hLi 
    go_simp
    exact HK.out
  | 14, ho =>
    simp only [opsKpl9, List.getElem?_toArray, List.getElem?_cons_succ, List.getElem?_cons_zero, Option.some.injEq] at ho
    subst ho
    have x68 : a.tmps[68]?.getD undef = .bool false := by rw [← ev]; exact hG.val 10 13 68 _ rfl (hdep ⟨13, .data⟩ (by simp) rfl)
    rw [if_pos (show Region.wanted _ _ = true from rfl)]
    have hfin := hK (.bool false) w (hG.quiet 11 14 69 _ rfl (by kernel_rfl) (by kernel_rfl))
    have HK := Lib.hid hfin
    clear hG hcl hdep hfr hK hfin hLi 
    go_simp
    exact HK.out
  | 15, ho =>
    simp only [opsKpl9, List.getElem?_toArray, List.getElem?_cons_succ, List.getElem?_cons_zero, Option.some.injEq] at ho
    subst ho
    have xg : a.tmps[69]?.getD undef = .bool false := by rw [← ev]; exact hG.val 11 14 69 _ rfl (hdep ⟨14, .guard⟩ (by simp) rfl)
    have hw := wanted_of (ops := opsKpl9) (a := a) (o := { dst := some 70, op := Op.move (Operand.tmp 0), type := 40, pos := "law.go:90", after := #[{ on := 14, ground := Ground.guard }], guard := some (14, false) }) (g := 14) (s := 69) (b := false) (b' := false) rfl rfl xg
    replace hw := hw.trans (show (false == false) = true from rfl)
    rw [if_pos hw]
    clear hw xg
    have hfin := hK (.slice (some ⟨g, o, none⟩) N cN) w (hG.quiet 12 15 70 _ rfl (by kernel_rfl) (by kernel_rfl))
    have HK := Lib.hid hfin
    clear hG hcl hdep hfr hK hfin hLi 
    go_simp
    exact HK.out
  | 16, ho =>
    simp only [opsKpl9, List.getElem?_toArray, List.getElem?_cons_succ, List.getElem?_cons_zero, Option.some.injEq] at ho
    subst ho
    have xg : a.tmps[69]?.getD undef = .bool false := by rw [← ev]; exact hG.val 11 14 69 _ rfl (hdep ⟨14, .guard⟩ (by simp) rfl)
    have hw := wanted_of (ops := opsKpl9) (a := a) (o := { dst := some 71, op := Op.move (Operand.tmp 13), type := 3, pos := "law.go:90", after := #[{ on := 14, ground := Ground.guard }], guard := some (14, false) }) (g := 14) (s := 69) (b := false) (b' := false) rfl rfl xg
    replace hw := hw.trans (show (false == false) = true from rfl)
    rw [if_pos hw]
    clear hw xg
    have hfin := hK (.int .i64 (i : Int)) w (hG.quiet 13 16 71 _ rfl (by kernel_rfl) (by kernel_rfl))
    have HK := Lib.hid hfin
    clear hG hcl hdep hfr hK hfin hLi 
    go_simp
    exact HK.out
  | 17, ho =>
    simp only [opsKpl9, List.getElem?_toArray, List.getElem?_cons_succ, List.getElem?_cons_zero, Option.some.injEq] at ho
    subst ho
    have x70 : a.tmps[70]?.getD undef = .slice (some ⟨g, o, none⟩) N cN := by rw [← ev]; exact hG.val 12 15 70 _ rfl (hdep ⟨15, .data⟩ (by simp) rfl)
    have x71 : a.tmps[71]?.getD undef = .int .i64 (i : Int) := by rw [← ev]; exact hG.val 13 16 71 _ rfl (hdep ⟨16, .data⟩ (by simp) rfl)
    have xg : a.tmps[69]?.getD undef = .bool false := by rw [← ev]; exact hG.val 11 14 69 _ rfl (hdep ⟨14, .guard⟩ (by simp) rfl)
    have hw := wanted_of (ops := opsKpl9) (a := a) (o := { dst := some 72, op := Op.indexAddr 40 (Operand.tmp 70) (Operand.tmp 71), type := 0, pos := "law.go:90", after := #[{ on := 15, ground := Ground.data }, { on := 16, ground := Ground.data }, { on := 14, ground := Ground.guard }], guard := some (14, false) }) (g := 14) (s := 69) (b := false) (b' := false) rfl rfl xg
    replace hw := hw.trans (show (false == false) = true from rfl)
    rw [if_pos hw]
    clear hw xg
    obtain ⟨ph, hSp, hdone⟩ := hG.any
    have hfin := hK (.pointer (some ⟨g, o + i, none⟩)) w (hG.quiet 14 17 72 _ rfl (by kernel_rfl) (by kernel_rfl))
    have HK := Lib.hid hfin
    generalize (resOf kpl9C fun t => a.eval (.tmp t)) = R at *
    clear hx hv hcv hc0 hc1 hc2 hc3 hc4 hc5
    clear hSp hdone
    clear hG hcl hdep hfr hK hfin hLi 
    go_simp
    exact HK.out
  | 18, ho =>
    simp only [opsKpl9, List.getElem?_toArray, List.getElem?_cons_succ, List.getElem?_cons_zero, Option.some.injEq] at ho
    subst ho
    have x72 : a.tmps[72]?.getD undef = .pointer (some ⟨g, o + i, none⟩) := by rw [← ev]; exact hG.val 14 17 72 _ rfl (hdep ⟨17, .data⟩ (by simp) rfl)
    have xg : a.tmps[69]?.getD undef = .bool false := by rw [← ev]; exact hG.val 11 14 69 _ rfl (hdep ⟨14, .guard⟩ (by simp) rfl)
    have hw := wanted_of (ops := opsKpl9) (a := a) (o := { dst := some 73, op := Op.load 31 (Operand.tmp 72), type := 31, pos := "law.go:90", after := #[{ on := 17, ground := Ground.data }, { on := 14, ground := Ground.guard }], guard := some (14, false) }) (g := 14) (s := 69) (b := false) (b' := false) rfl rfl xg
    replace hw := hw.trans (show (false == false) = true from rfl)
    rw [if_pos hw]
    clear hw xg
    obtain ⟨ph, hSp, hdone⟩ := hG.any
    have hfin := hK (.slice A n c) w (hG.quiet 15 18 73 _ rfl (by kernel_rfl) (by kernel_rfl))
    have HK := Lib.hid hfin
    generalize (resOf kpl9C fun t => a.eval (.tmp t)) = R at *
    have q1 := hx _ _ _ hSp
    clear hiN hx hv hcv hc0 hc1 hc2 hc3 hc4 hc5
    clear hSp hdone
    clear hG hcl hdep hfr hK hfin hLi 
    go_simp
    exact HK.out
  | 19, ho =>
    simp only [opsKpl9, List.getElem?_toArray, List.getElem?_cons_succ, List.getElem?_cons_zero, Option.some.injEq] at ho
    subst ho
    have x73 : a.tmps[73]?.getD undef = .slice A n c := by rw [← ev]; exact hG.val 15 18 73 _ rfl (hdep ⟨18, .data⟩ (by simp) rfl)
    have xg : a.tmps[69]?.getD undef = .bool false := by rw [← ev]; exact hG.val 11 14 69 _ rfl (hdep ⟨14, .chain⟩ (by simp) rfl)
    have hw := wanted_of (ops := opsKpl9) (a := a) (o := { dst := some 74, op := Op.call { callee := Callee.value (Operand.func 16), args := #[Operand.tmp 73], argTypes := #[31] }, type := 27, pos := "law.go:90", after := #[{ on := 18, ground := Ground.data }, { on := 14, ground := Ground.chain }, { on := 14, ground := Ground.guard }], guard := some (14, false) }) (g := 14) (s := 69) (b := false) (b' := false) rfl rfl xg
    replace hw := hw.trans (show (false == false) = true from rfl)
    rw [if_pos hw]
    clear hw xg
    have hSj := hG.at 3 (19, 74) rfl hLi (fun c h0 hc => by simp [kpl9C] at hc; subst hc; exact hcl 14 _ rfl (hdep ⟨14, .chain⟩ (by simp) rfl) ⟨12, .chain⟩ (by simp [opsKpl9]) rfl)
    have hfin := fun v w' hs => hK v w' (hG.call 3 (19, 74) rfl hLi (fun c h0 hc => by simp [kpl9C] at hc; subst hc; exact hcl 14 _ rfl (hdep ⟨14, .chain⟩ (by simp) rfl) ⟨12, .chain⟩ (by simp [opsKpl9]) rfl) (by kernel_rfl) v w' hs)
    have HK := Lib.hid hfin
    generalize (resOf kpl9C fun t => a.eval (.tmp t)) = R at *
    clear hG hcl hdep hfr hK hfin hLi
    have hc := Lib.hid (hc3 _ _ hSj)
    clear hSj hiN hx hv hcv hc0 hc1 hc2 hc3 hc4 hc5
    go_simp
    go_at_call 16
    refine hc.out.mono ?_
    rintro e w' ⟨v, rfl, hs⟩
    exact HK.out v w' hs
  | 20, ho =>
    simp only [opsKpl9, List.getElem?_toArray, List.getElem?_cons_succ, List.getElem?_cons_zero, Option.some.injEq] at ho
    subst ho
    have xg : a.tmps[69]?.getD undef = .bool false := by rw [← ev]; exact hG.val 11 14 69 _ rfl (hdep ⟨14, .guard⟩ (by simp) rfl)
    have hw := wanted_of (ops := opsKpl9) (a := a) (o := { dst := some 75, op := Op.convert 27 9 (Operand.tmp 74), type := 9, pos := "law.go:90", after := #[{ on := 19, ground := Ground.data }, { on := 14, ground := Ground.guard }], guard := some (14, false) }) (g := 14) (s := 69) (b := false) (b' := false) rfl rfl xg
    replace hw := hw.trans (show (false == false) = true from rfl)
    rw [if_pos hw]
    clear hw xg
    obtain ⟨ph, hSp, hdone⟩ := hG.any
    have hd74 : 3 < ph := hdone 3 (19, 74) rfl (hdep ⟨19, .data⟩ (by simp) rfl)
    have r74 : a.tmps[74]?.getD undef = resOf kpl9C (fun t => a.eval (.tmp t)) 3 := by rw [← ev]; exact (resOf_at (C := kpl9C) (j := 3) rfl a).symm
    have hfin := hK (.string bs) w (hG.quiet 16 20 75 _ rfl (by kernel_rfl) (by kernel_rfl))
    have HK := Lib.hid hfin
    generalize (resOf kpl9C fun t => a.eval (.tmp t)) = R at *
    obtain ⟨A2, c2, q1, q2⟩ := hcv _ _ _ hSp 3 hd74 (by decide)
    rw [q1] at r74
    clear hiN hx hv hcv hc0 hc1 hc2 hc3 hc4 hc5 q1 hd74
    clear hSp hdone
    clear hG hcl hdep hfr hK hfin hLi 
    go_simp
    exact HK.out
  | 21, ho =>
    simp only [opsKpl9, List.getElem?_toArray, List.getElem?_cons_succ, List.getElem?_cons_zero, Option.some.injEq] at ho
    subst ho
    have xg : a.tmps[69]?.getD undef = .bool false := by rw [← ev]; exact hG.val 11 14 69 _ rfl (hdep ⟨14, .guard⟩ (by simp) rfl)
    have hw := wanted_of (ops := opsKpl9) (a := a) (o := { dst := some 76, op := Op.move (Operand.tmp 0), type := 40, pos := "law.go:90", after := #[{ on := 14, ground := Ground.guard }], guard := some (14, false) }) (g := 14) (s := 69) (b := false) (b' := false) rfl rfl xg
    replace hw := hw.trans (show (false == false) = true from rfl)
    rw [if_pos hw]
    clear hw xg
    have hfin := hK (.slice (some ⟨g, o, none⟩) N cN) w (hG.quiet 17 21 76 _ rfl (by kernel_rfl) (by kernel_rfl))
    have HK := Lib.hid hfin
    clear hG hcl hdep hfr hK hfin hLi 
    go_simp
    exact HK.out
  | 22, ho =>
    simp only [opsKpl9, List.getElem?_toArray, List.getElem?_cons_succ, List.getElem?_cons_zero, Option.some.injEq] at ho
    subst ho
    have xg : a.tmps[69]?.getD undef = .bool false := by rw [← ev]; exact hG.val 11 14 69 _ rfl (hdep ⟨14, .guard⟩ (by simp) rfl)
    have hw := wanted_of (ops := opsKpl9) (a := a) (o := { dst := some 77, op := Op.move (Operand.tmp 13), type := 3, pos := "law.go:90", after := #[{ on := 14, ground := Ground.guard }], guard := some (14, false) }) (g := 14) (s := 69) (b := false) (b' := false) rfl rfl xg
    replace hw := hw.trans (show (false == false) = true from rfl)
    rw [if_pos hw]
    clear hw xg
    have hfin := hK (.int .i64 (i : Int)) w (hG.quiet 18 22 77 _ rfl (by kernel_rfl) (by kernel_rfl))
    have HK := Lib.hid hfin
    clear hG hcl hdep hfr hK hfin hLi 
    go_simp
    exact HK.out
  | 23, ho =>
    simp only [opsKpl9, List.getElem?_toArray, List.getElem?_cons_succ, List.getElem?_cons_zero, Option.some.injEq] at ho
    subst ho
    have x76 : a.tmps[76]?.getD undef = .slice (some ⟨g, o, none⟩) N cN := by rw [← ev]; exact hG.val 17 21 76 _ rfl (hdep ⟨21, .data⟩ (by simp) rfl)
    have x77 : a.tmps[77]?.getD undef = .int .i64 (i : Int) := by rw [← ev]; exact hG.val 18 22 77 _ rfl (hdep ⟨22, .data⟩ (by simp) rfl)
    have xg : a.tmps[69]?.getD undef = .bool false := by rw [← ev]; exact hG.val 11 14 69 _ rfl (hdep ⟨14, .guard⟩ (by simp) rfl)
    have hw := wanted_of (ops := opsKpl9) (a := a) (o := { dst := some 78, op := Op.indexAddr 40 (Operand.tmp 76) (Operand.tmp 77), type := 0, pos := "law.go:90", after := #[{ on := 21, ground := Ground.data }, { on := 22, ground := Ground.data }, { on := 14, ground := Ground.guard }], guard := some (14, false) }) (g := 14) (s := 69) (b := false) (b' := false) rfl rfl xg
    replace hw := hw.trans (show (false == false) = true from rfl)
    rw [if_pos hw]
    clear hw xg
    obtain ⟨ph, hSp, hdone⟩ := hG.any
    have hfin := hK (.pointer (some ⟨g, o + i, none⟩)) w (hG.quiet 19 23 78 _ rfl (by kernel_rfl) (by kernel_rfl))
    have HK := Lib.hid hfin
    generalize (resOf kpl9C fun t => a.eval (.tmp t)) = R at *
    clear hx hv hcv hc0 hc1 hc2 hc3 hc4 hc5
    clear hSp hdone
    clear hG hcl hdep hfr hK hfin hLi 
    go_simp
    exact HK.out
  | 24, ho =>
    simp only [opsKpl9, List.getElem?_toArray, List.getElem?_cons_succ, List.getElem?_cons_zero, Option.some.injEq] at ho
    subst ho
    have x78 : a.tmps[78]?.getD undef = .pointer (some ⟨g, o + i, none⟩) := by rw [← ev]; exact hG.val 19 23 78 _ rfl (hdep ⟨23, .data⟩ (by simp) rfl)
    have xg : a.tmps[69]?.getD undef = .bool false := by rw [← ev]; exact hG.val 11 14 69 _ rfl (hdep ⟨14, .guard⟩ (by simp) rfl)
    have hw := wanted_of (ops := opsKpl9) (a := a) (o := { dst := some 79, op := Op.load 31 (Operand.tmp 78), type := 31, pos := "law.go:90", after := #[{ on := 23, ground := Ground.data }, { on := 14, ground := Ground.guard }], guard := some (14, false) }) (g := 14) (s := 69) (b := false) (b' := false) rfl rfl xg
    replace hw := hw.trans (show (false == false) = true from rfl)
    rw [if_pos hw]
    clear hw xg
    obtain ⟨ph, hSp, hdone⟩ := hG.any
    have hfin := hK (.slice A n c) w (hG.quiet 20 24 79 _ rfl (by kernel_rfl) (by kernel_rfl))
    have HK := Lib.hid hfin
    generalize (resOf kpl9C fun t => a.eval (.tmp t)) = R at *
    have q1 := hx _ _ _ hSp
    clear hiN hx hv hcv hc0 hc1 hc2 hc3 hc4 hc5
    clear hSp hdone
    clear hG hcl hdep hfr hK hfin hLi 
    go_simp
    exact HK.out
  | 25, ho =>
    simp only [opsKpl9, List.getElem?_toArray, List.getElem?_cons_succ, List.getElem?_cons_zero, Option.some.injEq] at ho
    subst ho
    have x79 : a.tmps[79]?.getD undef = .slice A n c := by rw [← ev]; exact hG.val 20 24 79 _ rfl (hdep ⟨24, .data⟩ (by simp) rfl)
    have xg : a.tmps[69]?.getD undef = .bool false := by rw [← ev]; exact hG.val 11 14 69 _ rfl (hdep ⟨14, .guard⟩ (by simp) rfl)
    have hw := wanted_of (ops := opsKpl9) (a := a) (o := { dst := some 80, op := Op.call { callee := Callee.value (Operand.func 19), args := #[Operand.tmp 79], argTypes := #[31] }, type := 47, pos := "law.go:90", after := #[{ on := 24, ground := Ground.data }, { on := 19, ground := Ground.chain }, { on := 14, ground := Ground.guard }], guard := some (14, false) }) (g := 14) (s := 69) (b := false) (b' := false) rfl rfl xg
    replace hw := hw.trans (show (false == false) = true from rfl)
    rw [if_pos hw]
    clear hw xg
    have hSj := hG.at 4 (25, 80) rfl hLi (fun c h0 hc => by simp [kpl9C] at hc; subst hc; exact hdep ⟨19, .chain⟩ (by simp) rfl)
    have hfin := fun v w' hs => hK v w' (hG.call 4 (25, 80) rfl hLi (fun c h0 hc => by simp [kpl9C] at hc; subst hc; exact hdep ⟨19, .chain⟩ (by simp) rfl) (by kernel_rfl) v w' hs)
    have HK := Lib.hid hfin
    generalize (resOf kpl9C fun t => a.eval (.tmp t)) = R at *
    clear hG hcl hdep hfr hK hfin hLi
    have hc := Lib.hid (hc4 _ _ hSj)
    clear hSj hiN hx hv hcv hc0 hc1 hc2 hc3 hc4 hc5
    go_simp
    go_at_call 19
    refine hc.out.mono ?_
    rintro e w' ⟨v, rfl, hs⟩
    exact HK.out v w' hs
  | 26, ho =>
    simp only [opsKpl9, List.getElem?_toArray, List.getElem?_cons_succ, List.getElem?_cons_zero, Option.some.injEq] at ho
    subst ho
    have xg : a.tmps[69]?.getD undef = .bool false := by rw [← ev]; exact hG.val 11 14 69 _ rfl (hdep ⟨14, .guard⟩ (by simp) rfl)
    have hw := wanted_of (ops := opsKpl9) (a := a) (o := { dst := some 81, op := Op.call { callee := Callee.value (Operand.func 20), args := #[Operand.tmp 80], argTypes := #[47] }, type := 27, pos := "law.go:90", after := #[{ on := 25, ground := Ground.data }, { on := 25, ground := Ground.chain }, { on := 14, ground := Ground.guard }], guard := some (14, false) }) (g := 14) (s := 69) (b := false) (b' := false) rfl rfl xg
    replace hw := hw.trans (show (false == false) = true from rfl)
    rw [if_pos hw]
    clear hw xg
    have hSj := hG.at 5 (26, 81) rfl hLi (fun c h0 hc => by simp [kpl9C] at hc; subst hc; exact hdep ⟨25, .data⟩ (by simp) rfl)
    have r80 : a.tmps[80]?.getD undef = resOf kpl9C (fun t => a.eval (.tmp t)) 4 := by rw [← ev]; exact (resOf_at (C := kpl9C) (j := 4) rfl a).symm
    have hfin := fun v w' hs => hK v w' (hG.call 5 (26, 81) rfl hLi (fun c h0 hc => by simp [kpl9C] at hc; subst hc; exact hdep ⟨25, .data⟩ (by simp) rfl) (by kernel_rfl) v w' hs)
    have HK := Lib.hid hfin
    generalize (resOf kpl9C fun t => a.eval (.tmp t)) = R at *
    clear hG hcl hdep hfr hK hfin hLi
    have hc := Lib.hid (hc5 _ _ hSj)
    clear hSj hiN hx hv hcv hc0 hc1 hc2 hc3 hc4 hc5
    go_simp
    go_at_call 20
    refine hc.out.mono ?_
    rintro e w' ⟨v, rfl, hs⟩
    exact HK.out v w' hs
  | 27, ho =>
    simp only [opsKpl9, List.getElem?_toArray, List.getElem?_cons_succ, List.getElem?_cons_zero, Option.some.injEq] at ho
    subst ho
    have xg : a.tmps[69]?.getD undef = .bool false := by rw [← ev]; exact hG.val 11 14 69 _ rfl (hdep ⟨14, .guard⟩ (by simp) rfl)
    have hw := wanted_of (ops := opsKpl9) (a := a) (o := { dst := some 82, op := Op.convert 27 9 (Operand.tmp 81), type := 9, pos := "law.go:90", after := #[{ on := 26, ground := Ground.data }, { on := 14, ground := Ground.guard }], guard := some (14, false) }) (g := 14) (s := 69) (b := false) (b' := false) rfl rfl xg
    replace hw := hw.trans (show (false == false) = true from rfl)
    rw [if_pos hw]
    clear hw xg
    obtain ⟨ph, hSp, hdone⟩ := hG.any
    have hd81 : 5 < ph := hdone 5 (26, 81) rfl (hdep ⟨26, .data⟩ (by simp) rfl)
    have r81 : a.tmps[81]?.getD undef = resOf kpl9C (fun t => a.eval (.tmp t)) 5 := by rw [← ev]; exact (resOf_at (C := kpl9C) (j := 5) rfl a).symm
    have hfin := hK (.string bs) w (hG.quiet 21 27 82 _ rfl (by kernel_rfl) (by kernel_rfl))
    have HK := Lib.hid hfin
    generalize (resOf kpl9C fun t => a.eval (.tmp t)) = R at *
    obtain ⟨A2, c2, q1, q2⟩ := hcv _ _ _ hSp 5 hd81 (by decide)
    rw [q1] at r81
    clear hiN hx hv hcv hc0 hc1 hc2 hc3 hc4 hc5 q1 hd81
    clear hSp hdone
    clear hG hcl hdep hfr hK hfin hLi 
    go_simp
    exact HK.out
  | 28, ho =>
    simp only [opsKpl9, List.getElem?_toArray, List.getElem?_cons_succ, List.getElem?_cons_zero, Option.some.injEq] at ho
    subst ho
    have x75 : a.tmps[75]?.getD undef = .string bs := by rw [← ev]; exact hG.val 16 20 75 _ rfl (hdep ⟨20, .data⟩ (by simp) rfl)
    have x82 : a.tmps[82]?.getD undef = .string bs := by rw [← ev]; exact hG.val 21 27 82 _ rfl (hdep ⟨27, .data⟩ (by simp) rfl)
    have xg : a.tmps[69]?.getD undef = .bool false := by rw [← ev]; exact hG.val 11 14 69 _ rfl (hdep ⟨14, .guard⟩ (by simp) rfl)
    have hw := wanted_of (ops := opsKpl9) (a := a) (o := { dst := some 83, op := Op.binOp BinOp.neq 9 (Operand.tmp 75) (Operand.tmp 82) 9, type := 4, pos := "law.go:90", after := #[{ on := 20, ground := Ground.data }, { on := 27, ground := Ground.data }, { on := 14, ground := Ground.guard }], guard := some (14, false) }) (g := 14) (s := 69) (b := false) (b' := false) rfl rfl xg
    replace hw := hw.trans (show (false == false) = true from rfl)
    rw [if_pos hw]
    clear hw xg
    have hfin := hK (.bool false) w (hG.quiet 22 28 83 _ rfl (by kernel_rfl) (by kernel_rfl))
    have HK := Lib.hid hfin
    clear hG hcl hdep hfr hK hfin hLi 
    go_simp
    exact HK.out
  | 29, ho =>
    simp only [opsKpl9, List.getElem?_toArray, List.getElem?_cons_succ, List.getElem?_cons_zero, Option.some.injEq] at ho
    subst ho
    have x69 : a.tmps[69]?.getD undef = .bool false := by rw [← ev]; exact hG.val 11 14 69 _ rfl (hdep ⟨14, .data⟩ (by simp) rfl)
    have x83 : a.tmps[83]?.getD undef = .bool false := by rw [← ev]; exact hG.val 22 28 83 _ rfl (hdep ⟨28, .data⟩ (by simp) rfl)
    rw [if_pos (show Region.wanted _ _ = true from rfl)]
    have hfin := hK (.bool false) w (hG.quiet 23 29 84 _ rfl (by kernel_rfl) (by kernel_rfl))
    have HK := Lib.hid hfin
    clear hG hcl hdep hfr hK hfin hLi 
    go_simp
    exact HK.out
  | n + 30, ho => exact absurd (Array.getElem?_eq_some_iff.1 ho).1 (by show ¬ n + 30 < 30; omega)
end Go.Proofs.Ytgpkdnnlgafenaa

namespace Go.Proofs.Ytgpkdnnlgafenaa
open Go.RowKit
set_option linter.unusedVariables false
set_option linter.unusedSimpArgs false

def opsKpl13 : Array Oper := #[
  { dst := some 97, op := Op.move (Operand.tmp 15), type := 4, pos := "law.go:95", after := #[], guard := none },
  { dst := some 98, op := Op.move (Operand.tmp 17), type := 4, pos := "law.go:95", after := #[], guard := none },
  { dst := some 99, op := Op.binOp BinOp.neq 4 (Operand.tmp 97) (Operand.tmp 98) 4, type := 4, pos := "law.go:95", after := #[{ on := 0, ground := Ground.data }, { on := 1, ground := Ground.data }], guard := none },
  { dst := some 100, op := Op.move (Operand.tmp 99), type := 4, pos := "law.go:95", after := #[{ on := 2, ground := Ground.data }], guard := none },
  { dst := some 101, op := Op.move (Operand.tmp 14), type := 27, pos := "law.go:95", after := #[{ on := 3, ground := Ground.guard }], guard := some (3, false) },
  { dst := some 102, op := Op.convert 27 9 (Operand.tmp 101), type := 9, pos := "law.go:95", after := #[{ on := 4, ground := Ground.data }, { on := 3, ground := Ground.guard }], guard := some (3, false) },
  { dst := some 103, op := Op.move (Operand.tmp 16), type := 9, pos := "law.go:95", after := #[{ on := 3, ground := Ground.guard }], guard := some (3, false) },
  { dst := some 104, op := Op.binOp BinOp.neq 9 (Operand.tmp 102) (Operand.tmp 103) 9, type := 4, pos := "law.go:95", after := #[{ on := 5, ground := Ground.data }, { on := 6, ground := Ground.data }, { on := 3, ground := Ground.guard }], guard := some (3, false) },
  { dst := some 105, op := Op.pick (Operand.tmp 100) (Operand.const (Value.bool true)) (Operand.tmp 104), type := 4, pos := "law.go:95", after := #[{ on := 3, ground := Ground.data }, { on := 7, ground := Ground.data }], guard := none },
  { dst := some 106, op := Op.move (Operand.tmp 105), type := 4, pos := "law.go:95", after := #[{ on := 8, ground := Ground.data }, { on := 3, ground := Ground.chain }], guard := none },
  { dst := some 107, op := Op.move (Operand.tmp 11), type := 23, pos := "law.go:95", after := #[{ on := 9, ground := Ground.guard }], guard := some (9, false) },
  { dst := some 108, op := Op.call { callee := Callee.value (Operand.func 11), args := #[Operand.tmp 107], argTypes := #[23] }, type := 3, pos := "law.go:95", after := #[{ on := 10, ground := Ground.data }, { on := 9, ground := Ground.chain }, { on := 9, ground := Ground.guard }], guard := some (9, false) },
  { dst := some 109, op := Op.move (Operand.tmp 12), type := 42, pos := "law.go:95", after := #[{ on := 9, ground := Ground.guard }], guard := some (9, false) },
  { dst := some 110, op := Op.nilCheck (Operand.tmp 109), type := 0, pos := "law.go:95", after := #[{ on := 12, ground := Ground.data }, { on := 9, ground := Ground.guard }], guard := some (9, false) },
  { dst := some 111, op := Op.fieldAddr 45 (Operand.tmp 110) 0, type := 0, pos := "law.go:95", after := #[{ on := 13, ground := Ground.data }, { on := 9, ground := Ground.guard }], guard := some (9, false) },
  { dst := some 112, op := Op.load 43 (Operand.tmp 111), type := 43, pos := "law.go:95", after := #[{ on := 14, ground := Ground.data }, { on := 9, ground := Ground.guard }], guard := some (9, false) },
  { dst := some 113, op := Op.call { callee := Callee.builtin Builtin.len, args := #[Operand.tmp 112], argTypes := #[43] }, type := 3, pos := "law.go:95", after := #[{ on := 15, ground := Ground.data }, { on := 9, ground := Ground.guard }], guard := some (9, false) },
  { dst := some 114, op := Op.binOp BinOp.neq 3 (Operand.tmp 108) (Operand.tmp 113) 3, type := 4, pos := "law.go:95", after := #[{ on := 11, ground := Ground.data }, { on := 16, ground := Ground.data }, { on := 9, ground := Ground.guard }], guard := some (9, false) },
  { dst := some 115, op := Op.pick (Operand.tmp 106) (Operand.const (Value.bool true)) (Operand.tmp 114), type := 4, pos := "law.go:95", after := #[{ on := 9, ground := Ground.data }, { on := 17, ground := Ground.data }], guard := none },
  { dst := some 116, op := Op.move (Operand.tmp 115), type := 4, pos := "law.go:95", after := #[{ on := 18, ground := Ground.data }, { on := 11, ground := Ground.chain }], guard := none },
  { dst := some 117, op := Op.move (Operand.tmp 11), type := 23, pos := "law.go:95", after := #[{ on := 19, ground := Ground.guard }], guard := some (19, false) },
  { dst := some 118, op := Op.move (Operand.tmp 1), type := 9, pos := "law.go:95", after := #[{ on := 19, ground := Ground.guard }], guard := some (19, false) },
  { dst := some 119, op := Op.move (Operand.tmp 2), type := 9, pos := "law.go:95", after := #[{ on := 19, ground := Ground.guard }], guard := some (19, false) },
  { dst := some 120, op := Op.move (Operand.tmp 3), type := 3, pos := "law.go:95", after := #[{ on := 19, ground := Ground.guard }], guard := some (19, false) },
  { dst := some 121, op := Op.call { callee := Callee.value (Operand.func 15), args := #[Operand.tmp 117, Operand.tmp 118, Operand.tmp 119, Operand.tmp 120], argTypes := #[23, 9, 9, 3] }, type := 37, pos := "law.go:95", after := #[{ on := 20, ground := Ground.data }, { on := 21, ground := Ground.data }, { on := 22, ground := Ground.data }, { on := 23, ground := Ground.data }, { on := 19, ground := Ground.chain }, { on := 19, ground := Ground.guard }], guard := some (19, false) },
  { dst := some 122, op := Op.move (Operand.tmp 12), type := 42, pos := "law.go:95", after := #[{ on := 19, ground := Ground.guard }], guard := some (19, false) },
  { dst := some 123, op := Op.move (Operand.tmp 1), type := 9, pos := "law.go:95", after := #[{ on := 19, ground := Ground.guard }], guard := some (19, false) },
  { dst := some 124, op := Op.move (Operand.tmp 2), type := 9, pos := "law.go:95", after := #[{ on := 19, ground := Ground.guard }], guard := some (19, false) },
  { dst := some 125, op := Op.move (Operand.tmp 3), type := 3, pos := "law.go:95", after := #[{ on := 19, ground := Ground.guard }], guard := some (19, false) },
  { dst := some 126, op := Op.call { callee := Callee.value (Operand.func 24), args := #[Operand.tmp 122, Operand.tmp 123, Operand.tmp 124, Operand.tmp 125], argTypes := #[42, 9, 9, 3] }, type := 43, pos := "law.go:95", after := #[{ on := 25, ground := Ground.data }, { on := 26, ground := Ground.data }, { on := 27, ground := Ground.data }, { on := 28, ground := Ground.data }, { on := 24, ground := Ground.chain }, { on := 19, ground := Ground.guard }], guard := some (19, false) },
  { dst := some 127, op := Op.call { callee := Callee.value (Operand.func 23), args := #[Operand.tmp 121, Operand.tmp 126], argTypes := #[37, 43] }, type := 4, pos := "law.go:95", after := #[{ on := 24, ground := Ground.data }, { on := 29, ground := Ground.data }, { on := 29, ground := Ground.chain }, { on := 19, ground := Ground.guard }], guard := some (19, false) },
  { dst := some 128, op := Op.unOp UnOp.not 4 (Operand.tmp 127), type := 4, pos := "law.go:95", after := #[{ on := 30, ground := Ground.data }, { on := 19, ground := Ground.guard }], guard := some (19, false) },
  { dst := some 129, op := Op.pick (Operand.tmp 116) (Operand.const (Value.bool true)) (Operand.tmp 128), type := 4, pos := "law.go:95", after := #[{ on := 19, ground := Ground.data }, { on := 31, ground := Ground.data }], guard := none },
  { dst := some 130, op := Op.move (Operand.tmp 129), type := 4, pos := "law.go:95", after := #[{ on := 32, ground := Ground.data }, { on := 30, ground := Ground.chain }], guard := none },
  { dst := some 131, op := Op.move (Operand.tmp 11), type := 23, pos := "law.go:95", after := #[{ on := 33, ground := Ground.guard }], guard := some (33, false) },
  { dst := some 132, op := Op.call { callee := Callee.value (Operand.func 14), args := #[Operand.tmp 131], argTypes := #[23] }, type := 27, pos := "law.go:95", after := #[{ on := 34, ground := Ground.data }, { on := 33, ground := Ground.chain }, { on := 33, ground := Ground.guard }], guard := some (33, false) },
  { dst := some 133, op := Op.convert 27 9 (Operand.tmp 132), type := 9, pos := "law.go:95", after := #[{ on := 35, ground := Ground.data }, { on := 33, ground := Ground.guard }], guard := some (33, false) },
  { dst := some 134, op := Op.move (Operand.tmp 12), type := 42, pos := "law.go:95", after := #[{ on := 33, ground := Ground.guard }], guard := some (33, false) },
  { dst := some 135, op := Op.call { callee := Callee.value (Operand.func 25), args := #[Operand.tmp 134], argTypes := #[42] }, type := 27, pos := "law.go:95", after := #[{ on := 37, ground := Ground.data }, { on := 35, ground := Ground.chain }, { on := 33, ground := Ground.guard }], guard := some (33, false) },
  { dst := some 136, op := Op.convert 27 9 (Operand.tmp 135), type := 9, pos := "law.go:95", after := #[{ on := 38, ground := Ground.data }, { on := 33, ground := Ground.guard }], guard := some (33, false) },
  { dst := some 137, op := Op.binOp BinOp.neq 9 (Operand.tmp 133) (Operand.tmp 136) 9, type := 4, pos := "law.go:95", after := #[{ on := 36, ground := Ground.data }, { on := 39, ground := Ground.data }, { on := 33, ground := Ground.guard }], guard := some (33, false) },
  { dst := some 138, op := Op.pick (Operand.tmp 130) (Operand.const (Value.bool true)) (Operand.tmp 137), type := 4, pos := "law.go:95", after := #[{ on := 33, ground := Ground.data }, { on := 40, ground := Ground.data }], guard := none }]

def kpl13Vals (t u nv cv nm cu nb : Nat) (Av Au : Option Addr) (h : Bool) (most : Int) (fr to sv bb : ByteArray) : List (Nat × Nat × Value) := [(0, 97, .bool h), (1, 98, .bool h), (2, 99, .bool false), (3, 100, .bool false), (4, 101, .slice Av nv cv), (5, 102, .string sv), (6, 103, .string sv), (7, 104, .bool false), (8, 105, .bool false), (9, 106, .bool false), (10, 107, .pointer (some ⟨t, 0, none⟩)), (12, 109, .pointer (some ⟨u, 0, none⟩)), (13, 110, .pointer (some ⟨u, 0, none⟩)), (14, 111, .pointer (some ⟨u, 0, none⟩)), (15, 112, .slice Au nm cu), (16, 113, .int .i64 (nm : Int)), (17, 114, .bool false), (18, 115, .bool false), (19, 116, .bool false), (20, 117, .pointer (some ⟨t, 0, none⟩)), (21, 118, .string fr), (22, 119, .string to), (23, 120, .int .i64 most), (25, 122, .pointer (some ⟨u, 0, none⟩)), (26, 123, .string fr), (27, 124, .string to), (28, 125, .int .i64 most), (31, 128, .bool false), (32, 129, .bool false), (33, 130, .bool false), (34, 131, .pointer (some ⟨t, 0, none⟩)), (36, 133, .string bb), (37, 134, .pointer (some ⟨u, 0, none⟩)), (39, 136, .string bb), (40, 137, .bool false), (41, 138, .bool false)]
def kpl13C : List (Nat × Nat) := [(11, 108), (24, 121), (29, 126), (30, 127), (35, 132), (38, 135)]

set_option maxHeartbeats 8000000 in
set_option maxRecDepth 100000 in
theorem kpl13 {Q : Exit → Act → World → Prop} {a0 : Act} {wp : World} (t u nv cv nm cu nb : Nat) (Av Au : Option Addr) (h : Bool) (most : Int) (fr to sv bb : ByteArray) (S : Nat → (Nat → Value) → World → Prop)
    (hsz : 138 < a0.tmps.size) (in1 : a0.eval (.tmp 1) = .string fr) (in2 : a0.eval (.tmp 2) = .string to) (in3 : a0.eval (.tmp 3) = .int .i64 most) (in11 : a0.eval (.tmp 11) = .pointer (some ⟨t, 0, none⟩)) (in12 : a0.eval (.tmp 12) = .pointer (some ⟨u, 0, none⟩)) (in14 : a0.eval (.tmp 14) = .slice Av nv cv) (in15 : a0.eval (.tmp 15) = .bool h) (in16 : a0.eval (.tmp 16) = .string sv) (in17 : a0.eval (.tmp 17) = .bool h)
    (hx : ∀ p R w, S p R w → w.cell? ⟨u, 0, none⟩ = some (.slice Au nm cu)) (hcs : ∀ p R w, S p R w → (convert 27 9 (.slice Av nv cv)).run Try.prog w = .ok (.string sv) w)
    (hv0 : ∀ p R w, S p R w → 0 < p → R 0 = .int .i64 (nm : Int)) (hv3 : ∀ p R w, S p R w → 3 < p → R 3 = .bool true)
    (hcv : ∀ p R w, S p R w → ∀ k, k < p → k = 4 ∨ k = 5 → ∃ A c, R k = .slice A nb c ∧ (convert 27 9 (.slice A nb c)).run Try.prog w = .ok (.string bb) w)
    (hc0 : ∀ R w, S 0 R w → Calls Try.prog 11 #[.pointer (some ⟨t, 0, none⟩)] w fun e w' => ∃ v, e = .returned v ∧ S 1 (setR R 0 v) w')
    (hc1 : ∀ R w, S 1 R w → Calls Try.prog 15 #[.pointer (some ⟨t, 0, none⟩), .string fr, .string to, .int .i64 most] w fun e w' => ∃ v, e = .returned v ∧ S 2 (setR R 1 v) w')
    (hc2 : ∀ R w, S 2 R w → Calls Try.prog 24 #[.pointer (some ⟨u, 0, none⟩), .string fr, .string to, .int .i64 most] w fun e w' => ∃ v, e = .returned v ∧ S 3 (setR R 2 v) w')
    (hc3 : ∀ R w, S 3 R w → Calls Try.prog 23 #[R 1, R 2] w fun e w' => ∃ v, e = .returned v ∧ S 4 (setR R 3 v) w')
    (hc4 : ∀ R w, S 4 R w → Calls Try.prog 14 #[.pointer (some ⟨t, 0, none⟩)] w fun e w' => ∃ v, e = .returned v ∧ S 5 (setR R 4 v) w')
    (hc5 : ∀ R w, S 5 R w → Calls Try.prog 25 #[.pointer (some ⟨u, 0, none⟩)] w fun e w' => ∃ v, e = .returned v ∧ S 6 (setR R 5 v) w')
    (hS : S 0 (resOf kpl13C fun t => a0.eval (.tmp t)) wp.drew)
    (fin : ∀ a w, Fr [97, 98, 99, 100, 101, 102, 103, 104, 105, 106, 107, 108, 109, 110, 111, 112, 113, 114, 115, 116, 117, 118, 119, 120, 121, 122, 123, 124, 125, 126, 127, 128, 129, 130, 131, 132, 133, 134, 135, 136, 137, 138] a0 a → a.eval (.tmp 138) = .bool false → S 6 (resOf kpl13C fun t => a.eval (.tmp t)) w → Q .normal a w) :
    (Code.region 13 opsKpl13 true).wp Try.prog Q a0 wp := by
  refine region_inv (by kernel_rfl) [97, 98, 99, 100, 101, 102, 103, 104, 105, 106, 107, 108, 109, 110, 111, 112, 113, 114, 115, 116, 117, 118, 119, 120, 121, 122, 123, 124, 125, 126, 127, 128, 129, 130, 131, 132, 133, 134, 135, 136, 137, 138] (by kernel_rfl) (by kernel_rfl) (fun t ht => by simp at ht; omega) (GV (kpl13Vals t u nv cv nm cu nb Av Au h most fr to sv bb) kpl13C S) (.start hS) ?_
    (fun L a w hf hall hG => fin a w hf (hG.val 35 41 138 _ rfl (hall 41 (by decide))) (hG.fin (fun c hc => by simp [kpl13C] at hc; rcases hc with rfl | rfl | rfl | rfl | rfl | rfl <;> exact hall _ (by decide))))
  clear hS fin
  intro ix oo ho L a w hfr hG hLi hdep hcl K hK
  have e1 : a.tmps[1]?.getD undef = .string fr := by rw [← ev]; exact (hfr.same 1 (by decide)).trans in1
  have e2 : a.tmps[2]?.getD undef = .string to := by rw [← ev]; exact (hfr.same 2 (by decide)).trans in2
  have e3 : a.tmps[3]?.getD undef = .int .i64 most := by rw [← ev]; exact (hfr.same 3 (by decide)).trans in3
  have e11 : a.tmps[11]?.getD undef = .pointer (some ⟨t, 0, none⟩) := by rw [← ev]; exact (hfr.same 11 (by decide)).trans in11
  have e12 : a.tmps[12]?.getD undef = .pointer (some ⟨u, 0, none⟩) := by rw [← ev]; exact (hfr.same 12 (by decide)).trans in12
  have e14 : a.tmps[14]?.getD undef = .slice Av nv cv := by rw [← ev]; exact (hfr.same 14 (by decide)).trans in14
  have e15 : a.tmps[15]?.getD undef = .bool h := by rw [← ev]; exact (hfr.same 15 (by decide)).trans in15
  have e16 : a.tmps[16]?.getD undef = .string sv := by rw [← ev]; exact (hfr.same 16 (by decide)).trans in16
  have e17 : a.tmps[17]?.getD undef = .bool h := by rw [← ev]; exact (hfr.same 17 (by decide)).trans in17
  clear in1 in2 in3 in11 in12 in14 in15 in16 in17
  match ix, ho with
  | 0, ho =>
    simp only [opsKpl13, List.getElem?_toArray, List.getElem?_cons_zero, Option.some.injEq] at ho
    subst ho
    rw [if_pos (show Region.wanted _ _ = true from rfl)]
    have hfin := hK (.bool h) w (hG.quiet 0 0 97 _ rfl (by kernel_rfl) (by kernel_rfl))
    have HK := Lib.hid hfin
    clear hG hcl hdep hfr hK hfin hLi 
    go_simp
    exact HK.out
  | 1, ho =>
    simp only [opsKpl13, List.getElem?_toArray, List.getElem?_cons_succ, List.getElem?_cons_zero, Option.some.injEq] at ho
    subst ho
    rw [if_pos (show Region.wanted _ _ = true from rfl)]
    have hfin := hK (.bool h) w (hG.quiet 1 1 98 _ rfl (by kernel_rfl) (by kernel_rfl))
    have HK := Lib.hid hfin
    clear hG hcl hdep hfr hK hfin hLi 
    go_simp
    exact HK.out
  | 2, ho =>
    simp only [opsKpl13, List.getElem?_toArray, List.getElem?_cons_succ, List.getElem?_cons_zero, Option.some.injEq] at ho
    subst ho
    have x97 : a.tmps[97]?.getD undef = .bool h := by rw [← ev]; exact hG.val 0 0 97 _ rfl (hdep ⟨0, .data⟩ (by simp) rfl)
    have x98 : a.tmps[98]?.getD undef = .bool h := by rw [← ev]; exact hG.val 1 1 98 _ rfl (hdep ⟨1, .data⟩ (by simp) rfl)
    rw [if_pos (show Region.wanted _ _ = true from rfl)]
    have hfin := hK (.bool false) w (hG.quiet 2 2 99 _ rfl (by kernel_rfl) (by kernel_rfl))
    have HK := Lib.hid hfin
    clear hG hcl hdep hfr hK hfin hLi 
    go_simp
    exact HK.out
  | 3, ho =>
    simp only [opsKpl13, List.getElem?_toArray, List.getElem?_cons_succ, List.getElem?_cons_zero, Option.some.injEq] at ho
    subst ho
    have x99 : a.tmps[99]?.getD undef = .bool false := by rw [← ev]; exact hG.val 2 2 99 _ rfl (hdep ⟨2, .data⟩ (by simp) rfl)
    rw [if_pos (show Region.wanted _ _ = true from rfl)]
    have hfin := hK (.bool false) w (hG.quiet 3 3 100 _ rfl (by kernel_rfl) (by kernel_rfl))
    have HK := Lib.hid hfin
    clear hG hcl hdep hfr hK hfin hLi 
    go_simp
    exact HK.out
  | 4, ho =>
    simp only [opsKpl13, List.getElem?_toArray, List.getElem?_cons_succ, List.getElem?_cons_zero, Option.some.injEq] at ho
    subst ho
    have xg : a.tmps[100]?.getD undef = .bool false := by rw [← ev]; exact hG.val 3 3 100 _ rfl (hdep ⟨3, .guard⟩ (by simp) rfl)
    have hw := wanted_of (ops := opsKpl13) (a := a) (o := { dst := some 101, op := Op.move (Operand.tmp 14), type := 27, pos := "law.go:95", after := #[{ on := 3, ground := Ground.guard }], guard := some (3, false) }) (g := 3) (s := 100) (b := false) (b' := false) rfl rfl xg
    replace hw := hw.trans (show (false == false) = true from rfl)
    rw [if_pos hw]
    clear hw xg
    have hfin := hK (.slice Av nv cv) w (hG.quiet 4 4 101 _ rfl (by kernel_rfl) (by kernel_rfl))
    have HK := Lib.hid hfin
    clear hG hcl hdep hfr hK hfin hLi 
    go_simp
    exact HK.out
  | 5, ho =>
    simp only [opsKpl13, List.getElem?_toArray, List.getElem?_cons_succ, List.getElem?_cons_zero, Option.some.injEq] at ho
    subst ho
    have x101 : a.tmps[101]?.getD undef = .slice Av nv cv := by rw [← ev]; exact hG.val 4 4 101 _ rfl (hdep ⟨4, .data⟩ (by simp) rfl)
    have xg : a.tmps[100]?.getD undef = .bool false := by rw [← ev]; exact hG.val 3 3 100 _ rfl (hdep ⟨3, .guard⟩ (by simp) rfl)
    have hw := wanted_of (ops := opsKpl13) (a := a) (o := { dst := some 102, op := Op.convert 27 9 (Operand.tmp 101), type := 9, pos := "law.go:95", after := #[{ on := 4, ground := Ground.data }, { on := 3, ground := Ground.guard }], guard := some (3, false) }) (g := 3) (s := 100) (b := false) (b' := false) rfl rfl xg
    replace hw := hw.trans (show (false == false) = true from rfl)
    rw [if_pos hw]
    clear hw xg
    obtain ⟨ph, hSp, hdone⟩ := hG.any
    have hfin := hK (.string sv) w (hG.quiet 5 5 102 _ rfl (by kernel_rfl) (by kernel_rfl))
    have HK := Lib.hid hfin
    generalize (resOf kpl13C fun t => a.eval (.tmp t)) = R at *
    have q1 := hcs _ _ _ hSp
    clear hx hcs hv0 hv3 hcv hc0 hc1 hc2 hc3 hc4 hc5
    clear hSp hdone
    clear hG hcl hdep hfr hK hfin hLi 
    go_simp
    exact HK.out
  | 6, ho =>
    simp only [opsKpl13, List.getElem?_toArray, List.getElem?_cons_succ, List.getElem?_cons_zero, Option.some.injEq] at ho
    subst ho
    have xg : a.tmps[100]?.getD undef = .bool false := by rw [← ev]; exact hG.val 3 3 100 _ rfl (hdep ⟨3, .guard⟩ (by simp) rfl)
    have hw := wanted_of (ops := opsKpl13) (a := a) (o := { dst := some 103, op := Op.move (Operand.tmp 16), type := 9, pos := "law.go:95", after := #[{ on := 3, ground := Ground.guard }], guard := some (3, false) }) (g := 3) (s := 100) (b := false) (b' := false) rfl rfl xg
    replace hw := hw.trans (show (false == false) = true from rfl)
    rw [if_pos hw]
    clear hw xg
    have hfin := hK (.string sv) w (hG.quiet 6 6 103 _ rfl (by kernel_rfl) (by kernel_rfl))
    have HK := Lib.hid hfin
    clear hG hcl hdep hfr hK hfin hLi 
    go_simp
    exact HK.out
  | 7, ho =>
    simp only [opsKpl13, List.getElem?_toArray, List.getElem?_cons_succ, List.getElem?_cons_zero, Option.some.injEq] at ho
    subst ho
    have x102 : a.tmps[102]?.getD undef = .string sv := by rw [← ev]; exact hG.val 5 5 102 _ rfl (hdep ⟨5, .data⟩ (by simp) rfl)
    have x103 : a.tmps[103]?.getD undef = .string sv := by rw [← ev]; exact hG.val 6 6 103 _ rfl (hdep ⟨6, .data⟩ (by simp) rfl)
    have xg : a.tmps[100]?.getD undef = .bool false := by rw [← ev]; exact hG.val 3 3 100 _ rfl (hdep ⟨3, .guard⟩ (by simp) rfl)
    have hw := wanted_of (ops := opsKpl13) (a := a) (o := { dst := some 104, op := Op.binOp BinOp.neq 9 (Operand.tmp 102) (Operand.tmp 103) 9, type := 4, pos := "law.go:95", after := #[{ on := 5, ground := Ground.data }, { on := 6, ground := Ground.data }, { on := 3, ground := Ground.guard }], guard := some (3, false) }) (g := 3) (s := 100) (b := false) (b' := false) rfl rfl xg
    replace hw := hw.trans (show (false == false) = true from rfl)
    rw [if_pos hw]
    clear hw xg
    have hfin := hK (.bool false) w (hG.quiet 7 7 104 _ rfl (by kernel_rfl) (by kernel_rfl))
    have HK := Lib.hid hfin
    clear hG hcl hdep hfr hK hfin hLi 
    go_simp
    exact HK.out
  | 8, ho =>
    simp only [opsKpl13, List.getElem?_toArray, List.getElem?_cons_succ, List.getElem?_cons_zero, Option.some.injEq] at ho
    subst ho
    have x100 : a.tmps[100]?.getD undef = .bool false := by rw [← ev]; exact hG.val 3 3 100 _ rfl (hdep ⟨3, .data⟩ (by simp) rfl)
    have x104 : a.tmps[104]?.getD undef = .bool false := by rw [← ev]; exact hG.val 7 7 104 _ rfl (hdep ⟨7, .data⟩ (by simp) rfl)
    rw [if_pos (show Region.wanted _ _ = true from rfl)]
    have hfin := hK (.bool false) w (hG.quiet 8 8 105 _ rfl (by kernel_rfl) (by kernel_rfl))
    have HK := Lib.hid hfin
    clear hG hcl hdep hfr hK hfin hLi 
    go_simp
    exact HK.out
  | 9, ho =>
    simp only [opsKpl13, List.getElem?_toArray, List.getElem?_cons_succ, List.getElem?_cons_zero, Option.some.injEq] at ho
    subst ho
    have x105 : a.tmps[105]?.getD undef = .bool false := by rw [← ev]; exact hG.val 8 8 105 _ rfl (hdep ⟨8, .data⟩ (by simp) rfl)
    rw [if_pos (show Region.wanted _ _ = true from rfl)]
    have hfin := hK (.bool false) w (hG.quiet 9 9 106 _ rfl (by kernel_rfl) (by kernel_rfl))
    have HK := Lib.hid hfin
    clear hG hcl hdep hfr hK hfin hLi 
    go_simp
    exact HK.out
  | 10, ho =>
    simp only [opsKpl13, List.getElem?_toArray, List.getElem?_cons_succ, List.getElem?_cons_zero, Option.some.injEq] at ho
    subst ho
    have xg : a.tmps[106]?.getD undef = .bool false := by rw [← ev]; exact hG.val 9 9 106 _ rfl (hdep ⟨9, .guard⟩ (by simp) rfl)
    have hw := wanted_of (ops := opsKpl13) (a := a) (o := { dst := some 107, op := Op.move (Operand.tmp 11), type := 23, pos := "law.go:95", after := #[{ on := 9, ground := Ground.guard }], guard := some (9, false) }) (g := 9) (s := 106) (b := false) (b' := false) rfl rfl xg
    replace hw := hw.trans (show (false == false) = true from rfl)
    rw [if_pos hw]
    clear hw xg
    have hfin := hK (.pointer (some ⟨t, 0, none⟩)) w (hG.quiet 10 10 107 _ rfl (by kernel_rfl) (by kernel_rfl))
    have HK := Lib.hid hfin
    clear hG hcl hdep hfr hK hfin hLi 
    go_simp
    exact HK.out
  | 11, ho =>
    simp only [opsKpl13, List.getElem?_toArray, List.getElem?_cons_succ, List.getElem?_cons_zero, Option.some.injEq] at ho
    subst ho
    have x107 : a.tmps[107]?.getD undef = .pointer (some ⟨t, 0, none⟩) := by rw [← ev]; exact hG.val 10 10 107 _ rfl (hdep ⟨10, .data⟩ (by simp) rfl)
    have xg : a.tmps[106]?.getD undef = .bool false := by rw [← ev]; exact hG.val 9 9 106 _ rfl (hdep ⟨9, .chain⟩ (by simp) rfl)
    have hw := wanted_of (ops := opsKpl13) (a := a) (o := { dst := some 108, op := Op.call { callee := Callee.value (Operand.func 11), args := #[Operand.tmp 107], argTypes := #[23] }, type := 3, pos := "law.go:95", after := #[{ on := 10, ground := Ground.data }, { on := 9, ground := Ground.chain }, { on := 9, ground := Ground.guard }], guard := some (9, false) }) (g := 9) (s := 106) (b := false) (b' := false) rfl rfl xg
    replace hw := hw.trans (show (false == false) = true from rfl)
    rw [if_pos hw]
    clear hw xg
    have hSj := hG.at 0 (11, 108) rfl hLi (fun c h0 hc => absurd h0 (by decide))
    have hfin := fun v w' hs => hK v w' (hG.call 0 (11, 108) rfl hLi (fun c h0 hc => absurd h0 (by decide)) (by kernel_rfl) v w' hs)
    have HK := Lib.hid hfin
    generalize (resOf kpl13C fun t => a.eval (.tmp t)) = R at *
    clear hG hcl hdep hfr hK hfin hLi
    have hc := Lib.hid (hc0 _ _ hSj)
    clear hSj hx hcs hv0 hv3 hcv hc0 hc1 hc2 hc3 hc4 hc5
    go_simp
    go_at_call 11
    refine hc.out.mono ?_
    rintro e w' ⟨v, rfl, hs⟩
    exact HK.out v w' hs
  | 12, ho =>
    simp only [opsKpl13, List.getElem?_toArray, List.getElem?_cons_succ, List.getElem?_cons_zero, Option.some.injEq] at ho
    subst ho
    have xg : a.tmps[106]?.getD undef = .bool false := by rw [← ev]; exact hG.val 9 9 106 _ rfl (hdep ⟨9, .guard⟩ (by simp) rfl)
    have hw := wanted_of (ops := opsKpl13) (a := a) (o := { dst := some 109, op := Op.move (Operand.tmp 12), type := 42, pos := "law.go:95", after := #[{ on := 9, ground := Ground.guard }], guard := some (9, false) }) (g := 9) (s := 106) (b := false) (b' := false) rfl rfl xg
    replace hw := hw.trans (show (false == false) = true from rfl)
    rw [if_pos hw]
    clear hw xg
    have hfin := hK (.pointer (some ⟨u, 0, none⟩)) w (hG.quiet 11 12 109 _ rfl (by kernel_rfl) (by kernel_rfl))
    have HK := Lib.hid hfin
    clear hG hcl hdep hfr hK hfin hLi 
    go_simp
    exact HK.out
  | 13, ho =>
    simp only [opsKpl13, List.getElem?_toArray, List.getElem?_cons_succ, List.getElem?_cons_zero, Option.some.injEq] at ho
    subst ho
    have x109 : a.tmps[109]?.getD undef = .pointer (some ⟨u, 0, none⟩) := by rw [← ev]; exact hG.val 11 12 109 _ rfl (hdep ⟨12, .data⟩ (by simp) rfl)
    have xg : a.tmps[106]?.getD undef = .bool false := by rw [← ev]; exact hG.val 9 9 106 _ rfl (hdep ⟨9, .guard⟩ (by simp) rfl)
    have hw := wanted_of (ops := opsKpl13) (a := a) (o := { dst := some 110, op := Op.nilCheck (Operand.tmp 109), type := 0, pos := "law.go:95", after := #[{ on := 12, ground := Ground.data }, { on := 9, ground := Ground.guard }], guard := some (9, false) }) (g := 9) (s := 106) (b := false) (b' := false) rfl rfl xg
    replace hw := hw.trans (show (false == false) = true from rfl)
    rw [if_pos hw]
    clear hw xg
    have hfin := hK (.pointer (some ⟨u, 0, none⟩)) w (hG.quiet 12 13 110 _ rfl (by kernel_rfl) (by kernel_rfl))
    have HK := Lib.hid hfin
    clear hG hcl hdep hfr hK hfin hLi 
    go_simp
    exact HK.out
  | 14, ho =>
    simp only [opsKpl13, List.getElem?_toArray, List.getElem?_cons_succ, List.getElem?_cons_zero, Option.some.injEq] at ho
    subst ho
    have x110 : a.tmps[110]?.getD undef = .pointer (some ⟨u, 0, none⟩) := by rw [← ev]; exact hG.val 12 13 110 _ rfl (hdep ⟨13, .data⟩ (by simp) rfl)
    have xg : a.tmps[106]?.getD undef = .bool false := by rw [← ev]; exact hG.val 9 9 106 _ rfl (hdep ⟨9, .guard⟩ (by simp) rfl)
    have hw := wanted_of (ops := opsKpl13) (a := a) (o := { dst := some 111, op := Op.fieldAddr 45 (Operand.tmp 110) 0, type := 0, pos := "law.go:95", after := #[{ on := 13, ground := Ground.data }, { on := 9, ground := Ground.guard }], guard := some (9, false) }) (g := 9) (s := 106) (b := false) (b' := false) rfl rfl xg
    replace hw := hw.trans (show (false == false) = true from rfl)
    rw [if_pos hw]
    clear hw xg
    have hfin := hK (.pointer (some ⟨u, 0, none⟩)) w (hG.quiet 13 14 111 _ rfl (by kernel_rfl) (by kernel_rfl))
    have HK := Lib.hid hfin
    clear hG hcl hdep hfr hK hfin hLi 
    go_simp
    exact HK.out
  | 15, ho =>
    simp only [opsKpl13, List.getElem?_toArray, List.getElem?_cons_succ, List.getElem?_cons_zero, Option.some.injEq] at ho
    subst ho
    have x111 : a.tmps[111]?.getD undef = .pointer (some ⟨u, 0, none⟩) := by rw [← ev]; exact hG.val 13 14 111 _ rfl (hdep ⟨14, .data⟩ (by simp) rfl)
    have xg : a.tmps[106]?.getD undef = .bool false := by rw [← ev]; exact hG.val 9 9 106 _ rfl (hdep ⟨9, .guard⟩ (by simp) rfl)
    have hw := wanted_of (ops := opsKpl13) (a := a) (o := { dst := some 112, op := Op.load 43 (Operand.tmp 111), type := 43, pos := "law.go:95", after := #[{ on := 14, ground := Ground.data }, { on := 9, ground := Ground.guard }], guard := some (9, false) }) (g := 9) (s := 106) (b := false) (b' := false) rfl rfl xg
    replace hw := hw.trans (show (false == false) = true from rfl)
    rw [if_pos hw]
    clear hw xg
    obtain ⟨ph, hSp, hdone⟩ := hG.any
    have hfin := hK (.slice Au nm cu) w (hG.quiet 14 15 112 _ rfl (by kernel_rfl) (by kernel_rfl))
    have HK := Lib.hid hfin
    generalize (resOf kpl13C fun t => a.eval (.tmp t)) = R at *
    have q1 := hx _ _ _ hSp
    clear hx hcs hv0 hv3 hcv hc0 hc1 hc2 hc3 hc4 hc5
    clear hSp hdone
    clear hG hcl hdep hfr hK hfin hLi 
    go_simp
    exact HK.out
  | 16, ho =>
    simp only [opsKpl13, List.getElem?_toArray, List.getElem?_cons_succ, List.getElem?_cons_zero, Option.some.injEq] at ho
    subst ho
    have x112 : a.tmps[112]?.getD undef = .slice Au nm cu := by rw [← ev]; exact hG.val 14 15 112 _ rfl (hdep ⟨15, .data⟩ (by simp) rfl)
    have xg : a.tmps[106]?.getD undef = .bool false := by rw [← ev]; exact hG.val 9 9 106 _ rfl (hdep ⟨9, .guard⟩ (by simp) rfl)
    have hw := wanted_of (ops := opsKpl13) (a := a) (o := { dst := some 113, op := Op.call { callee := Callee.builtin Builtin.len, args := #[Operand.tmp 112], argTypes := #[43] }, type := 3, pos := "law.go:95", after := #[{ on := 15, ground := Ground.data }, { on := 9, ground := Ground.guard }], guard := some (9, false) }) (g := 9) (s := 106) (b := false) (b' := false) rfl rfl xg
    replace hw := hw.trans (show (false == false) = true from rfl)
    rw [if_pos hw]
    clear hw xg
    have hfin := hK (.int .i64 (nm : Int)) w (hG.quiet 15 16 113 _ rfl (by kernel_rfl) (by kernel_rfl))
    have HK := Lib.hid hfin
    clear hG hcl hdep hfr hK hfin hLi 
    go_simp
    exact HK.out
  | 17, ho =>
    simp only [opsKpl13, List.getElem?_toArray, List.getElem?_cons_succ, List.getElem?_cons_zero, Option.some.injEq] at ho
    subst ho
    have x113 : a.tmps[113]?.getD undef = .int .i64 (nm : Int) := by rw [← ev]; exact hG.val 15 16 113 _ rfl (hdep ⟨16, .data⟩ (by simp) rfl)
    have xg : a.tmps[106]?.getD undef = .bool false := by rw [← ev]; exact hG.val 9 9 106 _ rfl (hdep ⟨9, .guard⟩ (by simp) rfl)
    have hw := wanted_of (ops := opsKpl13) (a := a) (o := { dst := some 114, op := Op.binOp BinOp.neq 3 (Operand.tmp 108) (Operand.tmp 113) 3, type := 4, pos := "law.go:95", after := #[{ on := 11, ground := Ground.data }, { on := 16, ground := Ground.data }, { on := 9, ground := Ground.guard }], guard := some (9, false) }) (g := 9) (s := 106) (b := false) (b' := false) rfl rfl xg
    replace hw := hw.trans (show (false == false) = true from rfl)
    rw [if_pos hw]
    clear hw xg
    obtain ⟨ph, hSp, hdone⟩ := hG.any
    have hd108 : 0 < ph := hdone 0 (11, 108) rfl (hdep ⟨11, .data⟩ (by simp) rfl)
    have r108 : a.tmps[108]?.getD undef = resOf kpl13C (fun t => a.eval (.tmp t)) 0 := by rw [← ev]; exact (resOf_at (C := kpl13C) (j := 0) rfl a).symm
    have hfin := hK (.bool false) w (hG.quiet 16 17 114 _ rfl (by kernel_rfl) (by kernel_rfl))
    have HK := Lib.hid hfin
    generalize (resOf kpl13C fun t => a.eval (.tmp t)) = R at *
    rw [hv0 _ _ _ hSp hd108] at r108
    clear hx hcs hv0 hv3 hcv hc0 hc1 hc2 hc3 hc4 hc5 hd108
    clear hSp hdone
    clear hG hcl hdep hfr hK hfin hLi 
    go_simp
    exact HK.out
  | 18, ho =>
    simp only [opsKpl13, List.getElem?_toArray, List.getElem?_cons_succ, List.getElem?_cons_zero, Option.some.injEq] at ho
    subst ho
    have x106 : a.tmps[106]?.getD undef = .bool false := by rw [← ev]; exact hG.val 9 9 106 _ rfl (hdep ⟨9, .data⟩ (by simp) rfl)
    have x114 : a.tmps[114]?.getD undef = .bool false := by rw [← ev]; exact hG.val 16 17 114 _ rfl (hdep ⟨17, .data⟩ (by simp) rfl)
    rw [if_pos (show Region.wanted _ _ = true from rfl)]
    have hfin := hK (.bool false) w (hG.quiet 17 18 115 _ rfl (by kernel_rfl) (by kernel_rfl))
    have HK := Lib.hid hfin
    clear hG hcl hdep hfr hK hfin hLi 
    go_simp
    exact HK.out
  | 19, ho =>
    simp only [opsKpl13, List.getElem?_toArray, List.getElem?_cons_succ, List.getElem?_cons_zero, Option.some.injEq] at ho
    subst ho
    have x115 : a.tmps[115]?.getD undef = .bool false := by rw [← ev]; exact hG.val 17 18 115 _ rfl (hdep ⟨18, .data⟩ (by simp) rfl)
    rw [if_pos (show Region.wanted _ _ = true from rfl)]
    have hfin := hK (.bool false) w (hG.quiet 18 19 116 _ rfl (by kernel_rfl) (by kernel_rfl))
    have HK := Lib.hid hfin
    clear hG hcl hdep hfr hK hfin hLi 
    go_simp
    exact HK.out
  | 20, ho =>
    simp only [opsKpl13, List.getElem?_toArray, List.getElem?_cons_succ, List.getElem?_cons_zero, Option.some.injEq] at ho
    subst ho
    have xg : a.tmps[116]?.getD undef = .bool false := by rw [← ev]; exact hG.val 18 19 116 _ rfl (hdep ⟨19, .guard⟩ (by simp) rfl)
    have hw := wanted_of (ops := opsKpl13) (a := a) (o := { dst := some 117, op := Op.move (Operand.tmp 11), type := 23, pos := "law.go:95", after := #[{ on := 19, ground := Ground.guard }], guard := some (19, false) }) (g := 19) (s := 116) (b := false) (b' := false) rfl rfl xg
    replace hw := hw.trans (show (false == false) = true from rfl)
    rw [if_pos hw]
    clear hw xg
    have hfin := hK (.pointer (some ⟨t, 0, none⟩)) w (hG.quiet 19 20 117 _ rfl (by kernel_rfl) (by kernel_rfl))
    have HK := Lib.hid hfin
    clear hG hcl hdep hfr hK hfin hLi 
    go_simp
    exact HK.out
  | 21, ho =>
    simp only [opsKpl13, List.getElem?_toArray, List.getElem?_cons_succ, List.getElem?_cons_zero, Option.some.injEq] at ho
    subst ho
    have xg : a.tmps[116]?.getD undef = .bool false := by rw [← ev]; exact hG.val 18 19 116 _ rfl (hdep ⟨19, .guard⟩ (by simp) rfl)
    have hw := wanted_of (ops := opsKpl13) (a := a) (o := { dst := some 118, op := Op.move (Operand.tmp 1), type := 9, pos := "law.go:95", after := #[{ on := 19, ground := Ground.guard }], guard := some (19, false) }) (g := 19) (s := 116) (b := false) (b' := false) rfl rfl xg
    replace hw := hw.trans (show (false == false) = true from rfl)
    rw [if_pos hw]
    clear hw xg
    have hfin := hK (.string fr) w (hG.quiet 20 21 118 _ rfl (by kernel_rfl) (by kernel_rfl))
    have HK := Lib.hid hfin
    clear hG hcl hdep hfr hK hfin hLi 
    go_simp
    exact HK.out
  | 22, ho =>
    simp only [opsKpl13, List.getElem?_toArray, List.getElem?_cons_succ, List.getElem?_cons_zero, Option.some.injEq] at ho
    subst ho
    have xg : a.tmps[116]?.getD undef = .bool false := by rw [← ev]; exact hG.val 18 19 116 _ rfl (hdep ⟨19, .guard⟩ (by simp) rfl)
    have hw := wanted_of (ops := opsKpl13) (a := a) (o := { dst := some 119, op := Op.move (Operand.tmp 2), type := 9, pos := "law.go:95", after := #[{ on := 19, ground := Ground.guard }], guard := some (19, false) }) (g := 19) (s := 116) (b := false) (b' := false) rfl rfl xg
    replace hw := hw.trans (show (false == false) = true from rfl)
    rw [if_pos hw]
    clear hw xg
    have hfin := hK (.string to) w (hG.quiet 21 22 119 _ rfl (by kernel_rfl) (by kernel_rfl))
    have HK := Lib.hid hfin
    clear hG hcl hdep hfr hK hfin hLi 
    go_simp
    exact HK.out
  | 23, ho =>
    simp only [opsKpl13, List.getElem?_toArray, List.getElem?_cons_succ, List.getElem?_cons_zero, Option.some.injEq] at ho
    subst ho
    have xg : a.tmps[116]?.getD undef = .bool false := by rw [← ev]; exact hG.val 18 19 116 _ rfl (hdep ⟨19, .guard⟩ (by simp) rfl)
    have hw := wanted_of (ops := opsKpl13) (a := a) (o := { dst := some 120, op := Op.move (Operand.tmp 3), type := 3, pos := "law.go:95", after := #[{ on := 19, ground := Ground.guard }], guard := some (19, false) }) (g := 19) (s := 116) (b := false) (b' := false) rfl rfl xg
    replace hw := hw.trans (show (false == false) = true from rfl)
    rw [if_pos hw]
    clear hw xg
    have hfin := hK (.int .i64 most) w (hG.quiet 22 23 120 _ rfl (by kernel_rfl) (by kernel_rfl))
    have HK := Lib.hid hfin
    clear hG hcl hdep hfr hK hfin hLi 
    go_simp
    exact HK.out
  | 24, ho =>
    simp only [opsKpl13, List.getElem?_toArray, List.getElem?_cons_succ, List.getElem?_cons_zero, Option.some.injEq] at ho
    subst ho
    have x117 : a.tmps[117]?.getD undef = .pointer (some ⟨t, 0, none⟩) := by rw [← ev]; exact hG.val 19 20 117 _ rfl (hdep ⟨20, .data⟩ (by simp) rfl)
    have x118 : a.tmps[118]?.getD undef = .string fr := by rw [← ev]; exact hG.val 20 21 118 _ rfl (hdep ⟨21, .data⟩ (by simp) rfl)
    have x119 : a.tmps[119]?.getD undef = .string to := by rw [← ev]; exact hG.val 21 22 119 _ rfl (hdep ⟨22, .data⟩ (by simp) rfl)
    have x120 : a.tmps[120]?.getD undef = .int .i64 most := by rw [← ev]; exact hG.val 22 23 120 _ rfl (hdep ⟨23, .data⟩ (by simp) rfl)
    have xg : a.tmps[116]?.getD undef = .bool false := by rw [← ev]; exact hG.val 18 19 116 _ rfl (hdep ⟨19, .chain⟩ (by simp) rfl)
    have hw := wanted_of (ops := opsKpl13) (a := a) (o := { dst := some 121, op := Op.call { callee := Callee.value (Operand.func 15), args := #[Operand.tmp 117, Operand.tmp 118, Operand.tmp 119, Operand.tmp 120], argTypes := #[23, 9, 9, 3] }, type := 37, pos := "law.go:95", after := #[{ on := 20, ground := Ground.data }, { on := 21, ground := Ground.data }, { on := 22, ground := Ground.data }, { on := 23, ground := Ground.data }, { on := 19, ground := Ground.chain }, { on := 19, ground := Ground.guard }], guard := some (19, false) }) (g := 19) (s := 116) (b := false) (b' := false) rfl rfl xg
    replace hw := hw.trans (show (false == false) = true from rfl)
    rw [if_pos hw]
    clear hw xg
    have hSj := hG.at 1 (24, 121) rfl hLi (fun c h0 hc => by simp [kpl13C] at hc; subst hc; exact hcl 19 _ rfl (hdep ⟨19, .chain⟩ (by simp) rfl) ⟨11, .chain⟩ (by simp [opsKpl13]) rfl)
    have hfin := fun v w' hs => hK v w' (hG.call 1 (24, 121) rfl hLi (fun c h0 hc => by simp [kpl13C] at hc; subst hc; exact hcl 19 _ rfl (hdep ⟨19, .chain⟩ (by simp) rfl) ⟨11, .chain⟩ (by simp [opsKpl13]) rfl) (by kernel_rfl) v w' hs)
    have HK := Lib.hid hfin
    generalize (resOf kpl13C fun t => a.eval (.tmp t)) = R at *
    clear hG hcl hdep hfr hK hfin hLi
    have hc := Lib.hid (hc1 _ _ hSj)
    clear hSj hx hcs hv0 hv3 hcv hc0 hc1 hc2 hc3 hc4 hc5
    go_simp
    go_at_call 15
    refine hc.out.mono ?_
    rintro e w' ⟨v, rfl, hs⟩
    exact HK.out v w' hs
  | 25, ho =>
    simp only [opsKpl13, List.getElem?_toArray, List.getElem?_cons_succ, List.getElem?_cons_zero, Option.some.injEq] at ho
    subst ho
    have xg : a.tmps[116]?.getD undef = .bool false := by rw [← ev]; exact hG.val 18 19 116 _ rfl (hdep ⟨19, .guard⟩ (by simp) rfl)
    have hw := wanted_of (ops := opsKpl13) (a := a) (o := { dst := some 122, op := Op.move (Operand.tmp 12), type := 42, pos := "law.go:95", after := #[{ on := 19, ground := Ground.guard }], guard := some (19, false) }) (g := 19) (s := 116) (b := false) (b' := false) rfl rfl xg
    replace hw := hw.trans (show (false == false) = true from rfl)
    rw [if_pos hw]
    clear hw xg
    have hfin := hK (.pointer (some ⟨u, 0, none⟩)) w (hG.quiet 23 25 122 _ rfl (by kernel_rfl) (by kernel_rfl))
    have HK := Lib.hid hfin
    clear hG hcl hdep hfr hK hfin hLi 
    go_simp
    exact HK.out
  | 26, ho =>
    simp only [opsKpl13, List.getElem?_toArray, List.getElem?_cons_succ, List.getElem?_cons_zero, Option.some.injEq] at ho
    subst ho
    have xg : a.tmps[116]?.getD undef = .bool false := by rw [← ev]; exact hG.val 18 19 116 _ rfl (hdep ⟨19, .guard⟩ (by simp) rfl)
    have hw := wanted_of (ops := opsKpl13) (a := a) (o := { dst := some 123, op := Op.move (Operand.tmp 1), type := 9, pos := "law.go:95", after := #[{ on := 19, ground := Ground.guard }], guard := some (19, false) }) (g := 19) (s := 116) (b := false) (b' := false) rfl rfl xg
    replace hw := hw.trans (show (false == false) = true from rfl)
    rw [if_pos hw]
    clear hw xg
    have hfin := hK (.string fr) w (hG.quiet 24 26 123 _ rfl (by kernel_rfl) (by kernel_rfl))
    have HK := Lib.hid hfin
    clear hG hcl hdep hfr hK hfin hLi 
    go_simp
    exact HK.out
  | 27, ho =>
    simp only [opsKpl13, List.getElem?_toArray, List.getElem?_cons_succ, List.getElem?_cons_zero, Option.some.injEq] at ho
    subst ho
    have xg : a.tmps[116]?.getD undef = .bool false := by rw [← ev]; exact hG.val 18 19 116 _ rfl (hdep ⟨19, .guard⟩ (by simp) rfl)
    have hw := wanted_of (ops := opsKpl13) (a := a) (o := { dst := some 124, op := Op.move (Operand.tmp 2), type := 9, pos := "law.go:95", after := #[{ on := 19, ground := Ground.guard }], guard := some (19, false) }) (g := 19) (s := 116) (b := false) (b' := false) rfl rfl xg
    replace hw := hw.trans (show (false == false) = true from rfl)
    rw [if_pos hw]
    clear hw xg
    have hfin := hK (.string to) w (hG.quiet 25 27 124 _ rfl (by kernel_rfl) (by kernel_rfl))
    have HK := Lib.hid hfin
    clear hG hcl hdep hfr hK hfin hLi 
    go_simp
    exact HK.out
  | 28, ho =>
    simp only [opsKpl13, List.getElem?_toArray, List.getElem?_cons_succ, List.getElem?_cons_zero, Option.some.injEq] at ho
    subst ho
    have xg : a.tmps[116]?.getD undef = .bool false := by rw [← ev]; exact hG.val 18 19 116 _ rfl (hdep ⟨19, .guard⟩ (by simp) rfl)
    have hw := wanted_of (ops := opsKpl13) (a := a) (o := { dst := some 125, op := Op.move (Operand.tmp 3), type := 3, pos := "law.go:95", after := #[{ on := 19, ground := Ground.guard }], guard := some (19, false) }) (g := 19) (s := 116) (b := false) (b' := false) rfl rfl xg
    replace hw := hw.trans (show (false == false) = true from rfl)
    rw [if_pos hw]
    clear hw xg
    have hfin := hK (.int .i64 most) w (hG.quiet 26 28 125 _ rfl (by kernel_rfl) (by kernel_rfl))
    have HK := Lib.hid hfin
    clear hG hcl hdep hfr hK hfin hLi 
    go_simp
    exact HK.out
  | 29, ho =>
    simp only [opsKpl13, List.getElem?_toArray, List.getElem?_cons_succ, List.getElem?_cons_zero, Option.some.injEq] at ho
    subst ho
    have x122 : a.tmps[122]?.getD undef = .pointer (some ⟨u, 0, none⟩) := by rw [← ev]; exact hG.val 23 25 122 _ rfl (hdep ⟨25, .data⟩ (by simp) rfl)
    have x123 : a.tmps[123]?.getD undef = .string fr := by rw [← ev]; exact hG.val 24 26 123 _ rfl (hdep ⟨26, .data⟩ (by simp) rfl)
    have x124 : a.tmps[124]?.getD undef = .string to := by rw [← ev]; exact hG.val 25 27 124 _ rfl (hdep ⟨27, .data⟩ (by simp) rfl)
    have x125 : a.tmps[125]?.getD undef = .int .i64 most := by rw [← ev]; exact hG.val 26 28 125 _ rfl (hdep ⟨28, .data⟩ (by simp) rfl)
    have xg : a.tmps[116]?.getD undef = .bool false := by rw [← ev]; exact hG.val 18 19 116 _ rfl (hdep ⟨19, .guard⟩ (by simp) rfl)
    have hw := wanted_of (ops := opsKpl13) (a := a) (o := { dst := some 126, op := Op.call { callee := Callee.value (Operand.func 24), args := #[Operand.tmp 122, Operand.tmp 123, Operand.tmp 124, Operand.tmp 125], argTypes := #[42, 9, 9, 3] }, type := 43, pos := "law.go:95", after := #[{ on := 25, ground := Ground.data }, { on := 26, ground := Ground.data }, { on := 27, ground := Ground.data }, { on := 28, ground := Ground.data }, { on := 24, ground := Ground.chain }, { on := 19, ground := Ground.guard }], guard := some (19, false) }) (g := 19) (s := 116) (b := false) (b' := false) rfl rfl xg
    replace hw := hw.trans (show (false == false) = true from rfl)
    rw [if_pos hw]
    clear hw xg
    have hSj := hG.at 2 (29, 126) rfl hLi (fun c h0 hc => by simp [kpl13C] at hc; subst hc; exact hdep ⟨24, .chain⟩ (by simp) rfl)
    have hfin := fun v w' hs => hK v w' (hG.call 2 (29, 126) rfl hLi (fun c h0 hc => by simp [kpl13C] at hc; subst hc; exact hdep ⟨24, .chain⟩ (by simp) rfl) (by kernel_rfl) v w' hs)
    have HK := Lib.hid hfin
    generalize (resOf kpl13C fun t => a.eval (.tmp t)) = R at *
    clear hG hcl hdep hfr hK hfin hLi
    have hc := Lib.hid (hc2 _ _ hSj)
    clear hSj hx hcs hv0 hv3 hcv hc0 hc1 hc2 hc3 hc4 hc5
    go_simp
    go_at_call 24
    refine hc.out.mono ?_
    rintro e w' ⟨v, rfl, hs⟩
    exact HK.out v w' hs
  | 30, ho =>
    simp only [opsKpl13, List.getElem?_toArray, List.getElem?_cons_succ, List.getElem?_cons_zero, Option.some.injEq] at ho
    subst ho
    have xg : a.tmps[116]?.getD undef = .bool false := by rw [← ev]; exact hG.val 18 19 116 _ rfl (hdep ⟨19, .guard⟩ (by simp) rfl)
    have hw := wanted_of (ops := opsKpl13) (a := a) (o := { dst := some 127, op := Op.call { callee := Callee.value (Operand.func 23), args := #[Operand.tmp 121, Operand.tmp 126], argTypes := #[37, 43] }, type := 4, pos := "law.go:95", after := #[{ on := 24, ground := Ground.data }, { on := 29, ground := Ground.data }, { on := 29, ground := Ground.chain }, { on := 19, ground := Ground.guard }], guard := some (19, false) }) (g := 19) (s := 116) (b := false) (b' := false) rfl rfl xg
    replace hw := hw.trans (show (false == false) = true from rfl)
    rw [if_pos hw]
    clear hw xg
    have hSj := hG.at 3 (30, 127) rfl hLi (fun c h0 hc => by simp [kpl13C] at hc; subst hc; exact hdep ⟨29, .data⟩ (by simp) rfl)
    have r121 : a.tmps[121]?.getD undef = resOf kpl13C (fun t => a.eval (.tmp t)) 1 := by rw [← ev]; exact (resOf_at (C := kpl13C) (j := 1) rfl a).symm
    have r126 : a.tmps[126]?.getD undef = resOf kpl13C (fun t => a.eval (.tmp t)) 2 := by rw [← ev]; exact (resOf_at (C := kpl13C) (j := 2) rfl a).symm
    have hfin := fun v w' hs => hK v w' (hG.call 3 (30, 127) rfl hLi (fun c h0 hc => by simp [kpl13C] at hc; subst hc; exact hdep ⟨29, .data⟩ (by simp) rfl) (by kernel_rfl) v w' hs)
    have HK := Lib.hid hfin
    generalize (resOf kpl13C fun t => a.eval (.tmp t)) = R at *
    clear hG hcl hdep hfr hK hfin hLi
    have hc := Lib.hid (hc3 _ _ hSj)
    clear hSj hx hcs hv0 hv3 hcv hc0 hc1 hc2 hc3 hc4 hc5
    go_simp
    go_at_call 23
    refine hc.out.mono ?_
    rintro e w' ⟨v, rfl, hs⟩
    exact HK.out v w' hs
  | 31, ho =>
    simp only [opsKpl13, List.getElem?_toArray, List.getElem?_cons_succ, List.getElem?_cons_zero, Option.some.injEq] at ho
    subst ho
    have xg : a.tmps[116]?.getD undef = .bool false := by rw [← ev]; exact hG.val 18 19 116 _ rfl (hdep ⟨19, .guard⟩ (by simp) rfl)
    have hw := wanted_of (ops := opsKpl13) (a := a) (o := { dst := some 128, op := Op.unOp UnOp.not 4 (Operand.tmp 127), type := 4, pos := "law.go:95", after := #[{ on := 30, ground := Ground.data }, { on := 19, ground := Ground.guard }], guard := some (19, false) }) (g := 19) (s := 116) (b := false) (b' := false) rfl rfl xg
    replace hw := hw.trans (show (false == false) = true from rfl)
    rw [if_pos hw]
    clear hw xg
    obtain ⟨ph, hSp, hdone⟩ := hG.any
    have hd127 : 3 < ph := hdone 3 (30, 127) rfl (hdep ⟨30, .data⟩ (by simp) rfl)
    have r127 : a.tmps[127]?.getD undef = resOf kpl13C (fun t => a.eval (.tmp t)) 3 := by rw [← ev]; exact (resOf_at (C := kpl13C) (j := 3) rfl a).symm
    have hfin := hK (.bool false) w (hG.quiet 27 31 128 _ rfl (by kernel_rfl) (by kernel_rfl))
    have HK := Lib.hid hfin
    generalize (resOf kpl13C fun t => a.eval (.tmp t)) = R at *
    rw [hv3 _ _ _ hSp hd127] at r127
    clear hx hcs hv0 hv3 hcv hc0 hc1 hc2 hc3 hc4 hc5 hd127
    clear hSp hdone
    clear hG hcl hdep hfr hK hfin hLi 
    go_simp
    exact HK.out
  | 32, ho =>
    simp only [opsKpl13, List.getElem?_toArray, List.getElem?_cons_succ, List.getElem?_cons_zero, Option.some.injEq] at ho
    subst ho
    have x116 : a.tmps[116]?.getD undef = .bool false := by rw [← ev]; exact hG.val 18 19 116 _ rfl (hdep ⟨19, .data⟩ (by simp) rfl)
    have x128 : a.tmps[128]?.getD undef = .bool false := by rw [← ev]; exact hG.val 27 31 128 _ rfl (hdep ⟨31, .data⟩ (by simp) rfl)
    rw [if_pos (show Region.wanted _ _ = true from rfl)]
    have hfin := hK (.bool false) w (hG.quiet 28 32 129 _ rfl (by kernel_rfl) (by kernel_rfl))
    have HK := Lib.hid hfin
    clear hG hcl hdep hfr hK hfin hLi 
    go_simp
    exact HK.out
  | 33, ho =>
    simp only [opsKpl13, List.getElem?_toArray, List.getElem?_cons_succ, List.getElem?_cons_zero, Option.some.injEq] at ho
    subst ho
    have x129 : a.tmps[129]?.getD undef = .bool false := by rw [← ev]; exact hG.val 28 32 129 _ rfl (hdep ⟨32, .data⟩ (by simp) rfl)
    rw [if_pos (show Region.wanted _ _ = true from rfl)]
    have hfin := hK (.bool false) w (hG.quiet 29 33 130 _ rfl (by kernel_rfl) (by kernel_rfl))
    have HK := Lib.hid hfin
    clear hG hcl hdep hfr hK hfin hLi 
    go_simp
    exact HK.out
  | 34, ho =>
    simp only [opsKpl13, List.getElem?_toArray, List.getElem?_cons_succ, List.getElem?_cons_zero, Option.some.injEq] at ho
    subst ho
    have xg : a.tmps[130]?.getD undef = .bool false := by rw [← ev]; exact hG.val 29 33 130 _ rfl (hdep ⟨33, .guard⟩ (by simp) rfl)
    have hw := wanted_of (ops := opsKpl13) (a := a) (o := { dst := some 131, op := Op.move (Operand.tmp 11), type := 23, pos := "law.go:95", after := #[{ on := 33, ground := Ground.guard }], guard := some (33, false) }) (g := 33) (s := 130) (b := false) (b' := false) rfl rfl xg
    replace hw := hw.trans (show (false == false) = true from rfl)
    rw [if_pos hw]
    clear hw xg
    have hfin := hK (.pointer (some ⟨t, 0, none⟩)) w (hG.quiet 30 34 131 _ rfl (by kernel_rfl) (by kernel_rfl))
    have HK := Lib.hid hfin
    clear hG hcl hdep hfr hK hfin hLi 
    go_simp
    exact HK.out
  | 35, ho =>
    simp only [opsKpl13, List.getElem?_toArray, List.getElem?_cons_succ, List.getElem?_cons_zero, Option.some.injEq] at ho
    subst ho
    have x131 : a.tmps[131]?.getD undef = .pointer (some ⟨t, 0, none⟩) := by rw [← ev]; exact hG.val 30 34 131 _ rfl (hdep ⟨34, .data⟩ (by simp) rfl)
    have xg : a.tmps[130]?.getD undef = .bool false := by rw [← ev]; exact hG.val 29 33 130 _ rfl (hdep ⟨33, .chain⟩ (by simp) rfl)
    have hw := wanted_of (ops := opsKpl13) (a := a) (o := { dst := some 132, op := Op.call { callee := Callee.value (Operand.func 14), args := #[Operand.tmp 131], argTypes := #[23] }, type := 27, pos := "law.go:95", after := #[{ on := 34, ground := Ground.data }, { on := 33, ground := Ground.chain }, { on := 33, ground := Ground.guard }], guard := some (33, false) }) (g := 33) (s := 130) (b := false) (b' := false) rfl rfl xg
    replace hw := hw.trans (show (false == false) = true from rfl)
    rw [if_pos hw]
    clear hw xg
    have hSj := hG.at 4 (35, 132) rfl hLi (fun c h0 hc => by simp [kpl13C] at hc; subst hc; exact hcl 33 _ rfl (hdep ⟨33, .chain⟩ (by simp) rfl) ⟨30, .chain⟩ (by simp [opsKpl13]) rfl)
    have hfin := fun v w' hs => hK v w' (hG.call 4 (35, 132) rfl hLi (fun c h0 hc => by simp [kpl13C] at hc; subst hc; exact hcl 33 _ rfl (hdep ⟨33, .chain⟩ (by simp) rfl) ⟨30, .chain⟩ (by simp [opsKpl13]) rfl) (by kernel_rfl) v w' hs)
    have HK := Lib.hid hfin
    generalize (resOf kpl13C fun t => a.eval (.tmp t)) = R at *
    clear hG hcl hdep hfr hK hfin hLi
    have hc := Lib.hid (hc4 _ _ hSj)
    clear hSj hx hcs hv0 hv3 hcv hc0 hc1 hc2 hc3 hc4 hc5
    go_simp
    go_at_call 14
    refine hc.out.mono ?_
    rintro e w' ⟨v, rfl, hs⟩
    exact HK.out v w' hs
  | 36, ho =>
    simp only [opsKpl13, List.getElem?_toArray, List.getElem?_cons_succ, List.getElem?_cons_zero, Option.some.injEq] at ho
    subst ho
    have xg : a.tmps[130]?.getD undef = .bool false := by rw [← ev]; exact hG.val 29 33 130 _ rfl (hdep ⟨33, .guard⟩ (by simp) rfl)
    have hw := wanted_of (ops := opsKpl13) (a := a) (o := { dst := some 133, op := Op.convert 27 9 (Operand.tmp 132), type := 9, pos := "law.go:95", after := #[{ on := 35, ground := Ground.data }, { on := 33, ground := Ground.guard }], guard := some (33, false) }) (g := 33) (s := 130) (b := false) (b' := false) rfl rfl xg
    replace hw := hw.trans (show (false == false) = true from rfl)
    rw [if_pos hw]
    clear hw xg
    obtain ⟨ph, hSp, hdone⟩ := hG.any
    have hd132 : 4 < ph := hdone 4 (35, 132) rfl (hdep ⟨35, .data⟩ (by simp) rfl)
    have r132 : a.tmps[132]?.getD undef = resOf kpl13C (fun t => a.eval (.tmp t)) 4 := by rw [← ev]; exact (resOf_at (C := kpl13C) (j := 4) rfl a).symm
    have hfin := hK (.string bb) w (hG.quiet 31 36 133 _ rfl (by kernel_rfl) (by kernel_rfl))
    have HK := Lib.hid hfin
    generalize (resOf kpl13C fun t => a.eval (.tmp t)) = R at *
    obtain ⟨A2, c2, q1, q2⟩ := hcv _ _ _ hSp 4 hd132 (by decide)
    rw [q1] at r132
    clear hx hcs hv0 hv3 hcv hc0 hc1 hc2 hc3 hc4 hc5 q1 hd132
    clear hSp hdone
    clear hG hcl hdep hfr hK hfin hLi 
    go_simp
    exact HK.out
  | 37, ho =>
    simp only [opsKpl13, List.getElem?_toArray, List.getElem?_cons_succ, List.getElem?_cons_zero, Option.some.injEq] at ho
    subst ho
    have xg : a.tmps[130]?.getD undef = .bool false := by rw [← ev]; exact hG.val 29 33 130 _ rfl (hdep ⟨33, .guard⟩ (by simp) rfl)
    have hw := wanted_of (ops := opsKpl13) (a := a) (o := { dst := some 134, op := Op.move (Operand.tmp 12), type := 42, pos := "law.go:95", after := #[{ on := 33, ground := Ground.guard }], guard := some (33, false) }) (g := 33) (s := 130) (b := false) (b' := false) rfl rfl xg
    replace hw := hw.trans (show (false == false) = true from rfl)
    rw [if_pos hw]
    clear hw xg
    have hfin := hK (.pointer (some ⟨u, 0, none⟩)) w (hG.quiet 32 37 134 _ rfl (by kernel_rfl) (by kernel_rfl))
    have HK := Lib.hid hfin
    clear hG hcl hdep hfr hK hfin hLi 
    go_simp
    exact HK.out
  | 38, ho =>
    simp only [opsKpl13, List.getElem?_toArray, List.getElem?_cons_succ, List.getElem?_cons_zero, Option.some.injEq] at ho
    subst ho
    have x134 : a.tmps[134]?.getD undef = .pointer (some ⟨u, 0, none⟩) := by rw [← ev]; exact hG.val 32 37 134 _ rfl (hdep ⟨37, .data⟩ (by simp) rfl)
    have xg : a.tmps[130]?.getD undef = .bool false := by rw [← ev]; exact hG.val 29 33 130 _ rfl (hdep ⟨33, .guard⟩ (by simp) rfl)
    have hw := wanted_of (ops := opsKpl13) (a := a) (o := { dst := some 135, op := Op.call { callee := Callee.value (Operand.func 25), args := #[Operand.tmp 134], argTypes := #[42] }, type := 27, pos := "law.go:95", after := #[{ on := 37, ground := Ground.data }, { on := 35, ground := Ground.chain }, { on := 33, ground := Ground.guard }], guard := some (33, false) }) (g := 33) (s := 130) (b := false) (b' := false) rfl rfl xg
    replace hw := hw.trans (show (false == false) = true from rfl)
    rw [if_pos hw]
    clear hw xg
    have hSj := hG.at 5 (38, 135) rfl hLi (fun c h0 hc => by simp [kpl13C] at hc; subst hc; exact hdep ⟨35, .chain⟩ (by simp) rfl)
    have hfin := fun v w' hs => hK v w' (hG.call 5 (38, 135) rfl hLi (fun c h0 hc => by simp [kpl13C] at hc; subst hc; exact hdep ⟨35, .chain⟩ (by simp) rfl) (by kernel_rfl) v w' hs)
    have HK := Lib.hid hfin
    generalize (resOf kpl13C fun t => a.eval (.tmp t)) = R at *
    clear hG hcl hdep hfr hK hfin hLi
    have hc := Lib.hid (hc5 _ _ hSj)
    clear hSj hx hcs hv0 hv3 hcv hc0 hc1 hc2 hc3 hc4 hc5
    go_simp
    go_at_call 25
    refine hc.out.mono ?_
    rintro e w' ⟨v, rfl, hs⟩
    exact HK.out v w' hs
  | 39, ho =>
    simp only [opsKpl13, List.getElem?_toArray, List.getElem?_cons_succ, List.getElem?_cons_zero, Option.some.injEq] at ho
    subst ho
    have xg : a.tmps[130]?.getD undef = .bool false := by rw [← ev]; exact hG.val 29 33 130 _ rfl (hdep ⟨33, .guard⟩ (by simp) rfl)
    have hw := wanted_of (ops := opsKpl13) (a := a) (o := { dst := some 136, op := Op.convert 27 9 (Operand.tmp 135), type := 9, pos := "law.go:95", after := #[{ on := 38, ground := Ground.data }, { on := 33, ground := Ground.guard }], guard := some (33, false) }) (g := 33) (s := 130) (b := false) (b' := false) rfl rfl xg
    replace hw := hw.trans (show (false == false) = true from rfl)
    rw [if_pos hw]
    clear hw xg
    obtain ⟨ph, hSp, hdone⟩ := hG.any
    have hd135 : 5 < ph := hdone 5 (38, 135) rfl (hdep ⟨38, .data⟩ (by simp) rfl)
    have r135 : a.tmps[135]?.getD undef = resOf kpl13C (fun t => a.eval (.tmp t)) 5 := by rw [← ev]; exact (resOf_at (C := kpl13C) (j := 5) rfl a).symm
    have hfin := hK (.string bb) w (hG.quiet 33 39 136 _ rfl (by kernel_rfl) (by kernel_rfl))
    have HK := Lib.hid hfin
    generalize (resOf kpl13C fun t => a.eval (.tmp t)) = R at *
    obtain ⟨A2, c2, q1, q2⟩ := hcv _ _ _ hSp 5 hd135 (by decide)
    rw [q1] at r135
    clear hx hcs hv0 hv3 hcv hc0 hc1 hc2 hc3 hc4 hc5 q1 hd135
    clear hSp hdone
    clear hG hcl hdep hfr hK hfin hLi 
    go_simp
    exact HK.out
  | 40, ho =>
    simp only [opsKpl13, List.getElem?_toArray, List.getElem?_cons_succ, List.getElem?_cons_zero, Option.some.injEq] at ho
    subst ho
    have x133 : a.tmps[133]?.getD undef = .string bb := by rw [← ev]; exact hG.val 31 36 133 _ rfl (hdep ⟨36, .data⟩ (by simp) rfl)
    have x136 : a.tmps[136]?.getD undef = .string bb := by rw [← ev]; exact hG.val 33 39 136 _ rfl (hdep ⟨39, .data⟩ (by simp) rfl)
    have xg : a.tmps[130]?.getD undef = .bool false := by rw [← ev]; exact hG.val 29 33 130 _ rfl (hdep ⟨33, .guard⟩ (by simp) rfl)
    have hw := wanted_of (ops := opsKpl13) (a := a) (o := { dst := some 137, op := Op.binOp BinOp.neq 9 (Operand.tmp 133) (Operand.tmp 136) 9, type := 4, pos := "law.go:95", after := #[{ on := 36, ground := Ground.data }, { on := 39, ground := Ground.data }, { on := 33, ground := Ground.guard }], guard := some (33, false) }) (g := 33) (s := 130) (b := false) (b' := false) rfl rfl xg
    replace hw := hw.trans (show (false == false) = true from rfl)
    rw [if_pos hw]
    clear hw xg
    have hfin := hK (.bool false) w (hG.quiet 34 40 137 _ rfl (by kernel_rfl) (by kernel_rfl))
    have HK := Lib.hid hfin
    clear hG hcl hdep hfr hK hfin hLi 
    go_simp
    exact HK.out
  | 41, ho =>
    simp only [opsKpl13, List.getElem?_toArray, List.getElem?_cons_succ, List.getElem?_cons_zero, Option.some.injEq] at ho
    subst ho
    have x130 : a.tmps[130]?.getD undef = .bool false := by rw [← ev]; exact hG.val 29 33 130 _ rfl (hdep ⟨33, .data⟩ (by simp) rfl)
    have x137 : a.tmps[137]?.getD undef = .bool false := by rw [← ev]; exact hG.val 34 40 137 _ rfl (hdep ⟨40, .data⟩ (by simp) rfl)
    rw [if_pos (show Region.wanted _ _ = true from rfl)]
    have hfin := hK (.bool false) w (hG.quiet 35 41 138 _ rfl (by kernel_rfl) (by kernel_rfl))
    have HK := Lib.hid hfin
    clear hG hcl hdep hfr hK hfin hLi 
    go_simp
    exact HK.out
  | n + 42, ho => exact absurd (Array.getElem?_eq_some_iff.1 ho).1 (by show ¬ n + 42 < 42; omega)
end Go.Proofs.Ytgpkdnnlgafenaa

namespace Go.Proofs.Ytgpkdnnlgafenaa
open Go.RowKit
set_option linter.unusedVariables false
set_option linter.unusedSimpArgs false

def opsKpl21a : Array Oper := #[
  { dst := some 194, op := Op.move (Operand.tmp 21), type := 4, pos := "law.go:106", after := #[], guard := none },
  { dst := some 195, op := Op.unOp UnOp.not 4 (Operand.tmp 194), type := 4, pos := "law.go:106", after := #[{ on := 0, ground := Ground.data }], guard := none },
  { dst := some 196, op := Op.move (Operand.tmp 195), type := 4, pos := "law.go:106", after := #[{ on := 1, ground := Ground.data }], guard := none },
  { dst := some 197, op := Op.move (Operand.tmp 18), type := 31, pos := "law.go:106", after := #[{ on := 2, ground := Ground.guard }], guard := some (2, false) },
  { dst := some 198, op := Op.call { callee := Callee.value (Operand.func 16), args := #[Operand.tmp 197], argTypes := #[31] }, type := 27, pos := "law.go:106", after := #[{ on := 3, ground := Ground.data }, { on := 2, ground := Ground.chain }, { on := 2, ground := Ground.guard }], guard := some (2, false) },
  { dst := some 199, op := Op.convert 27 9 (Operand.tmp 198), type := 9, pos := "law.go:106", after := #[{ on := 4, ground := Ground.data }, { on := 2, ground := Ground.guard }], guard := some (2, false) },
  { dst := some 200, op := Op.move (Operand.tmp 20), type := 47, pos := "law.go:106", after := #[{ on := 2, ground := Ground.guard }], guard := some (2, false) },
  { dst := some 201, op := Op.call { callee := Callee.value (Operand.func 20), args := #[Operand.tmp 200], argTypes := #[47] }, type := 27, pos := "law.go:106", after := #[{ on := 6, ground := Ground.data }, { on := 4, ground := Ground.chain }, { on := 2, ground := Ground.guard }], guard := some (2, false) },
  { dst := some 202, op := Op.convert 27 9 (Operand.tmp 201), type := 9, pos := "law.go:106", after := #[{ on := 7, ground := Ground.data }, { on := 2, ground := Ground.guard }], guard := some (2, false) },
  { dst := some 203, op := Op.binOp BinOp.eql 9 (Operand.tmp 199) (Operand.tmp 202) 9, type := 4, pos := "law.go:106", after := #[{ on := 5, ground := Ground.data }, { on := 8, ground := Ground.data }, { on := 2, ground := Ground.guard }], guard := some (2, false) },
  { dst := some 204, op := Op.move (Operand.tmp 203), type := 4, pos := "law.go:106", after := #[{ on := 9, ground := Ground.data }, { on := 7, ground := Ground.chain }, { on := 2, ground := Ground.guard }], guard := some (2, false) },
  { dst := some 205, op := Op.move (Operand.tmp 18), type := 31, pos := "law.go:106", after := #[{ on := 10, ground := Ground.guard }], guard := some (10, true) },
  { dst := some 206, op := Op.call { callee := Callee.builtin Builtin.len, args := #[Operand.tmp 205], argTypes := #[31] }, type := 3, pos := "law.go:106", after := #[{ on := 11, ground := Ground.data }, { on := 10, ground := Ground.guard }], guard := some (10, true) },
  { dst := some 207, op := Op.move (Operand.tmp 20), type := 47, pos := "law.go:106", after := #[{ on := 10, ground := Ground.guard }], guard := some (10, true) },
  { dst := some 208, op := Op.call { callee := Callee.builtin Builtin.len, args := #[Operand.tmp 207], argTypes := #[47] }, type := 3, pos := "law.go:106", after := #[{ on := 13, ground := Ground.data }, { on := 10, ground := Ground.guard }], guard := some (10, true) },
  { dst := some 209, op := Op.binOp BinOp.eql 3 (Operand.tmp 206) (Operand.tmp 208) 3, type := 4, pos := "law.go:106", after := #[{ on := 12, ground := Ground.data }, { on := 14, ground := Ground.data }, { on := 10, ground := Ground.guard }], guard := some (10, true) },
  { dst := some 210, op := Op.pick (Operand.tmp 204) (Operand.tmp 209) (Operand.const (Value.bool false)), type := 4, pos := "law.go:106", after := #[{ on := 10, ground := Ground.data }, { on := 15, ground := Ground.data }, { on := 2, ground := Ground.guard }], guard := some (2, false) },
  { dst := some 211, op := Op.move (Operand.tmp 210), type := 4, pos := "law.go:106", after := #[{ on := 16, ground := Ground.data }, { on := 10, ground := Ground.chain }, { on := 2, ground := Ground.guard }], guard := some (2, false) },
  { dst := some 212, op := Op.move (Operand.tmp 25), type := 4, pos := "law.go:106", after := #[{ on := 17, ground := Ground.guard }], guard := some (17, true) },
  { dst := some 213, op := Op.unOp UnOp.not 4 (Operand.tmp 212), type := 4, pos := "law.go:106", after := #[{ on := 18, ground := Ground.data }, { on := 17, ground := Ground.guard }], guard := some (17, true) },
  { dst := some 214, op := Op.move (Operand.tmp 213), type := 4, pos := "law.go:106", after := #[{ on := 19, ground := Ground.data }, { on := 17, ground := Ground.chain }, { on := 17, ground := Ground.guard }], guard := some (17, true) },
  { dst := some 215, op := Op.move (Operand.tmp 22), type := 23, pos := "law.go:106", after := #[{ on := 20, ground := Ground.guard }], guard := some (20, false) },
  { dst := some 216, op := Op.binOp BinOp.neq 23 (Operand.tmp 215) (Operand.const (Value.pointer none)) 23, type := 4, pos := "law.go:106", after := #[{ on := 21, ground := Ground.data }, { on := 20, ground := Ground.guard }], guard := some (20, false) },
  { dst := some 217, op := Op.move (Operand.tmp 216), type := 4, pos := "law.go:106", after := #[{ on := 22, ground := Ground.data }, { on := 20, ground := Ground.chain }, { on := 20, ground := Ground.guard }], guard := some (20, false) },
  { dst := some 218, op := Op.move (Operand.tmp 22), type := 23, pos := "law.go:106", after := #[{ on := 23, ground := Ground.guard }], guard := some (23, true) },
  { dst := some 219, op := Op.call { callee := Callee.value (Operand.func 14), args := #[Operand.tmp 218], argTypes := #[23] }, type := 27, pos := "law.go:106", after := #[{ on := 24, ground := Ground.data }, { on := 23, ground := Ground.chain }, { on := 23, ground := Ground.guard }], guard := some (23, true) },
  { dst := some 220, op := Op.convert 27 9 (Operand.tmp 219), type := 9, pos := "law.go:106", after := #[{ on := 25, ground := Ground.data }, { on := 23, ground := Ground.guard }], guard := some (23, true) },
  { dst := some 221, op := Op.move (Operand.tmp 24), type := 42, pos := "law.go:106", after := #[{ on := 23, ground := Ground.guard }], guard := some (23, true) },
  { dst := some 222, op := Op.call { callee := Callee.value (Operand.func 25), args := #[Operand.tmp 221], argTypes := #[42] }, type := 27, pos := "law.go:106", after := #[{ on := 27, ground := Ground.data }, { on := 25, ground := Ground.chain }, { on := 23, ground := Ground.guard }], guard := some (23, true) },
  { dst := some 223, op := Op.convert 27 9 (Operand.tmp 222), type := 9, pos := "law.go:106", after := #[{ on := 28, ground := Ground.data }, { on := 23, ground := Ground.guard }], guard := some (23, true) },
  { dst := some 224, op := Op.binOp BinOp.eql 9 (Operand.tmp 220) (Operand.tmp 223) 9, type := 4, pos := "law.go:106", after := #[{ on := 26, ground := Ground.data }, { on := 29, ground := Ground.data }, { on := 23, ground := Ground.guard }], guard := some (23, true) },
  { dst := some 225, op := Op.pick (Operand.tmp 217) (Operand.tmp 224) (Operand.const (Value.bool false)), type := 4, pos := "law.go:106", after := #[{ on := 23, ground := Ground.data }, { on := 30, ground := Ground.data }, { on := 20, ground := Ground.guard }], guard := some (20, false) },
  { dst := some 226, op := Op.pick (Operand.tmp 214) (Operand.const (Value.bool true)) (Operand.tmp 225), type := 4, pos := "law.go:106", after := #[{ on := 20, ground := Ground.data }, { on := 31, ground := Ground.data }, { on := 17, ground := Ground.guard }], guard := some (17, true) },
  { dst := some 227, op := Op.pick (Operand.tmp 211) (Operand.tmp 226) (Operand.const (Value.bool false)), type := 4, pos := "law.go:106", after := #[{ on := 17, ground := Ground.data }, { on := 32, ground := Ground.data }, { on := 2, ground := Ground.guard }], guard := some (2, false) },
  { dst := some 228, op := Op.pick (Operand.tmp 196) (Operand.const (Value.bool true)) (Operand.tmp 227), type := 4, pos := "law.go:106", after := #[{ on := 2, ground := Ground.data }, { on := 33, ground := Ground.data }], guard := none },
  { dst := some 10, op := Op.assign (Operand.tmp 228), type := 4, pos := "law.go:106", after := #[{ on := 34, ground := Ground.data }, { on := 28, ground := Ground.chain }, { on := 0, ground := Ground.phase }, { on := 1, ground := Ground.phase }, { on := 2, ground := Ground.phase }, { on := 3, ground := Ground.phase }, { on := 4, ground := Ground.phase }, { on := 5, ground := Ground.phase }, { on := 6, ground := Ground.phase }, { on := 7, ground := Ground.phase }, { on := 8, ground := Ground.phase }, { on := 9, ground := Ground.phase }, { on := 10, ground := Ground.phase }, { on := 11, ground := Ground.phase }, { on := 12, ground := Ground.phase }, { on := 13, ground := Ground.phase }, { on := 14, ground := Ground.phase }, { on := 15, ground := Ground.phase }, { on := 16, ground := Ground.phase }, { on := 17, ground := Ground.phase }, { on := 18, ground := Ground.phase }, { on := 19, ground := Ground.phase }, { on := 20, ground := Ground.phase }, { on := 21, ground := Ground.phase }, { on := 22, ground := Ground.phase }, { on := 23, ground := Ground.phase }, { on := 24, ground := Ground.phase }, { on := 25, ground := Ground.phase }, { on := 26, ground := Ground.phase }, { on := 27, ground := Ground.phase }, { on := 28, ground := Ground.phase }, { on := 29, ground := Ground.phase }, { on := 30, ground := Ground.phase }, { on := 31, ground := Ground.phase }, { on := 32, ground := Ground.phase }, { on := 33, ground := Ground.phase }, { on := 34, ground := Ground.phase }], guard := none }]

def kpl21aVals (nx cx cy nb : Nat) (Ax Ay : Option Addr) (bs : ByteArray) : List (Nat × Nat × Value) := [(0, 194, .bool true), (1, 195, .bool false), (2, 196, .bool false), (3, 197, .slice Ax nx cx), (5, 199, .string bs), (6, 200, .slice Ay nx cy), (8, 202, .string bs), (9, 203, .bool true), (10, 204, .bool true), (11, 205, .slice Ax nx cx), (12, 206, .int .i64 (nx : Int)), (13, 207, .slice Ay nx cy), (14, 208, .int .i64 (nx : Int)), (15, 209, .bool true), (16, 210, .bool true), (17, 211, .bool true), (18, 212, .bool false), (19, 213, .bool true), (20, 214, .bool true), (21, 215, undef), (22, 216, undef), (23, 217, undef), (24, 218, undef), (25, 219, undef), (26, 220, undef), (27, 221, undef), (28, 222, undef), (29, 223, undef), (30, 224, undef), (31, 225, undef), (32, 226, .bool true), (33, 227, .bool true), (34, 228, .bool true), (35, 10, .bool true)]
def kpl21aC : List (Nat × Nat) := [(4, 198), (7, 201)]

theorem wanted_undef {ops : Array Oper} {a : Act} {o : Oper} {g s : Nat} {b : Bool} (hg : o.guard = some (g, b)) (hs : (ops[g]?).bind (·.dst) = some s) (hv : a.tmps[s]?.getD undef = undef) : Region.wanted o (yielded ops a.tmps) = false := by
  unfold Region.wanted yielded
  rw [hg]
  show ((match (ops[g]?.bind (·.dst)).bind (a.tmps[·]?) with
    | some (.bool b) => some b
    | _ => none) == some b) = false
  rw [hs]
  show ((match a.tmps[s]? with
    | some (.bool b) => some b
    | _ => none) == some b) = false
  cases h : a.tmps[s]? with
  | none => rfl
  | some v =>
    rw [h] at hv
    obtain rfl : v = undef := hv
    rfl

set_option maxHeartbeats 8000000 in
set_option maxRecDepth 100000 in
theorem kpl21a {Q : Exit → Act → World → Prop} {a0 : Act} {wp : World} (nx cx cy nb : Nat) (Ax Ay : Option Addr) (bs : ByteArray) (S : Nat → (Nat → Value) → World → Prop)
    (hsz : 228 < a0.tmps.size) (in18 : a0.eval (.tmp 18) = .slice Ax nx cx) (in20 : a0.eval (.tmp 20) = .slice Ay nx cy) (in21 : a0.eval (.tmp 21) = .bool true) (in25 : a0.eval (.tmp 25) = .bool false)
    (hcv : ∀ p R w, S p R w → ∀ k, k < p → k = 0 ∨ k = 1 → ∃ A c, R k = .slice A nb c ∧ (convert 27 9 (.slice A nb c)).run Try.prog w = .ok (.string bs) w)
    (hc0 : ∀ R w, S 0 R w → Calls Try.prog 16 #[.slice Ax nx cx] w fun e w' => ∃ v, e = .returned v ∧ S 1 (setR R 0 v) w')
    (hc1 : ∀ R w, S 1 R w → Calls Try.prog 20 #[.slice Ay nx cy] w fun e w' => ∃ v, e = .returned v ∧ S 2 (setR R 1 v) w')
    (hS : S 0 (resOf kpl21aC fun t => a0.eval (.tmp t)) wp.drew)
    (fin : ∀ a w, Fr [194, 195, 196, 197, 198, 199, 200, 201, 202, 203, 204, 205, 206, 207, 208, 209, 210, 211, 212, 213, 214, 215, 216, 217, 218, 219, 220, 221, 222, 223, 224, 225, 226, 227, 228, 10] a0 a → a.eval (.tmp 10) = .bool true → S 2 (resOf kpl21aC fun t => a.eval (.tmp t)) w → Q .normal a w) :
    (Code.region 21 opsKpl21a true).wp Try.prog Q a0 wp := by
  refine region_inv (by kernel_rfl) [194, 195, 196, 197, 198, 199, 200, 201, 202, 203, 204, 205, 206, 207, 208, 209, 210, 211, 212, 213, 214, 215, 216, 217, 218, 219, 220, 221, 222, 223, 224, 225, 226, 227, 228, 10] (by kernel_rfl) (by kernel_rfl) (fun t ht => by simp at ht; omega) (GV (kpl21aVals nx cx cy nb Ax Ay bs) kpl21aC S) (.start hS) ?_
    (fun L a w hf hall hG => fin a w hf (hG.val 33 35 10 _ rfl (hall 35 (by decide))) (hG.fin (fun c hc => by simp [kpl21aC] at hc; rcases hc with rfl | rfl <;> exact hall _ (by decide))))
  clear hS fin
  intro ix oo ho L a w hfr hG hLi hdep hcl K hK
  have e18 : a.tmps[18]?.getD undef = .slice Ax nx cx := by rw [← ev]; exact (hfr.same 18 (by decide)).trans in18
  have e20 : a.tmps[20]?.getD undef = .slice Ay nx cy := by rw [← ev]; exact (hfr.same 20 (by decide)).trans in20
  have e21 : a.tmps[21]?.getD undef = .bool true := by rw [← ev]; exact (hfr.same 21 (by decide)).trans in21
  have e25 : a.tmps[25]?.getD undef = .bool false := by rw [← ev]; exact (hfr.same 25 (by decide)).trans in25
  clear in18 in20 in21 in25
  match ix, ho with
  | 0, ho =>
    simp only [opsKpl21a, List.getElem?_toArray, List.getElem?_cons_zero, Option.some.injEq] at ho
    subst ho
    rw [if_pos (show Region.wanted _ _ = true from rfl)]
    have hfin := hK (.bool true) w (hG.quiet 0 0 194 _ rfl (by kernel_rfl) (by kernel_rfl))
    have HK := Lib.hid hfin
    clear hG hcl hdep hfr hK hfin hLi 
    go_simp
    exact HK.out
  | 1, ho =>
    simp only [opsKpl21a, List.getElem?_toArray, List.getElem?_cons_succ, List.getElem?_cons_zero, Option.some.injEq] at ho
    subst ho
    have x194 : a.tmps[194]?.getD undef = .bool true := by rw [← ev]; exact hG.val 0 0 194 _ rfl (hdep ⟨0, .data⟩ (by simp) rfl)
    rw [if_pos (show Region.wanted _ _ = true from rfl)]
    have hfin := hK (.bool false) w (hG.quiet 1 1 195 _ rfl (by kernel_rfl) (by kernel_rfl))
    have HK := Lib.hid hfin
    clear hG hcl hdep hfr hK hfin hLi 
    go_simp
    exact HK.out
  | 2, ho =>
    simp only [opsKpl21a, List.getElem?_toArray, List.getElem?_cons_succ, List.getElem?_cons_zero, Option.some.injEq] at ho
    subst ho
    have x195 : a.tmps[195]?.getD undef = .bool false := by rw [← ev]; exact hG.val 1 1 195 _ rfl (hdep ⟨1, .data⟩ (by simp) rfl)
    rw [if_pos (show Region.wanted _ _ = true from rfl)]
    have hfin := hK (.bool false) w (hG.quiet 2 2 196 _ rfl (by kernel_rfl) (by kernel_rfl))
    have HK := Lib.hid hfin
    clear hG hcl hdep hfr hK hfin hLi 
    go_simp
    exact HK.out
  | 3, ho =>
    simp only [opsKpl21a, List.getElem?_toArray, List.getElem?_cons_succ, List.getElem?_cons_zero, Option.some.injEq] at ho
    subst ho
    have xg : a.tmps[196]?.getD undef = .bool false := by rw [← ev]; exact hG.val 2 2 196 _ rfl (hdep ⟨2, .guard⟩ (by simp) rfl)
    have hw := wanted_of (ops := opsKpl21a) (a := a) (o := { dst := some 197, op := Op.move (Operand.tmp 18), type := 31, pos := "law.go:106", after := #[{ on := 2, ground := Ground.guard }], guard := some (2, false) }) (g := 2) (s := 196) (b := false) (b' := false) rfl rfl xg
    replace hw := hw.trans (show (false == false) = true from rfl)
    rw [if_pos hw]
    clear hw xg
    have hfin := hK (.slice Ax nx cx) w (hG.quiet 3 3 197 _ rfl (by kernel_rfl) (by kernel_rfl))
    have HK := Lib.hid hfin
    clear hG hcl hdep hfr hK hfin hLi 
    go_simp
    exact HK.out
  | 4, ho =>
    simp only [opsKpl21a, List.getElem?_toArray, List.getElem?_cons_succ, List.getElem?_cons_zero, Option.some.injEq] at ho
    subst ho
    have x197 : a.tmps[197]?.getD undef = .slice Ax nx cx := by rw [← ev]; exact hG.val 3 3 197 _ rfl (hdep ⟨3, .data⟩ (by simp) rfl)
    have xg : a.tmps[196]?.getD undef = .bool false := by rw [← ev]; exact hG.val 2 2 196 _ rfl (hdep ⟨2, .chain⟩ (by simp) rfl)
    have hw := wanted_of (ops := opsKpl21a) (a := a) (o := { dst := some 198, op := Op.call { callee := Callee.value (Operand.func 16), args := #[Operand.tmp 197], argTypes := #[31] }, type := 27, pos := "law.go:106", after := #[{ on := 3, ground := Ground.data }, { on := 2, ground := Ground.chain }, { on := 2, ground := Ground.guard }], guard := some (2, false) }) (g := 2) (s := 196) (b := false) (b' := false) rfl rfl xg
    replace hw := hw.trans (show (false == false) = true from rfl)
    rw [if_pos hw]
    clear hw xg
    have hSj := hG.at 0 (4, 198) rfl hLi (fun c h0 hc => absurd h0 (by decide))
    have hfin := fun v w' hs => hK v w' (hG.call 0 (4, 198) rfl hLi (fun c h0 hc => absurd h0 (by decide)) (by kernel_rfl) v w' hs)
    have HK := Lib.hid hfin
    generalize (resOf kpl21aC fun t => a.eval (.tmp t)) = R at *
    clear hG hcl hdep hfr hK hfin hLi
    have hc := Lib.hid (hc0 _ _ hSj)
    clear hSj hcv hc0 hc1
    go_simp
    go_at_call 16
    refine hc.out.mono ?_
    rintro e w' ⟨v, rfl, hs⟩
    exact HK.out v w' hs
  | 5, ho =>
    simp only [opsKpl21a, List.getElem?_toArray, List.getElem?_cons_succ, List.getElem?_cons_zero, Option.some.injEq] at ho
    subst ho
    have xg : a.tmps[196]?.getD undef = .bool false := by rw [← ev]; exact hG.val 2 2 196 _ rfl (hdep ⟨2, .guard⟩ (by simp) rfl)
    have hw := wanted_of (ops := opsKpl21a) (a := a) (o := { dst := some 199, op := Op.convert 27 9 (Operand.tmp 198), type := 9, pos := "law.go:106", after := #[{ on := 4, ground := Ground.data }, { on := 2, ground := Ground.guard }], guard := some (2, false) }) (g := 2) (s := 196) (b := false) (b' := false) rfl rfl xg
    replace hw := hw.trans (show (false == false) = true from rfl)
    rw [if_pos hw]
    clear hw xg
    obtain ⟨ph, hSp, hdone⟩ := hG.any
    have hd198 : 0 < ph := hdone 0 (4, 198) rfl (hdep ⟨4, .data⟩ (by simp) rfl)
    have r198 : a.tmps[198]?.getD undef = resOf kpl21aC (fun t => a.eval (.tmp t)) 0 := by rw [← ev]; exact (resOf_at (C := kpl21aC) (j := 0) rfl a).symm
    have hfin := hK (.string bs) w (hG.quiet 4 5 199 _ rfl (by kernel_rfl) (by kernel_rfl))
    have HK := Lib.hid hfin
    generalize (resOf kpl21aC fun t => a.eval (.tmp t)) = R at *
    obtain ⟨A2, c2, q1, q2⟩ := hcv _ _ _ hSp 0 hd198 (by decide)
    rw [q1] at r198
    clear hcv hc0 hc1 q1 hd198
    clear hSp hdone
    clear hG hcl hdep hfr hK hfin hLi 
    go_simp
    exact HK.out
  | 6, ho =>
    simp only [opsKpl21a, List.getElem?_toArray, List.getElem?_cons_succ, List.getElem?_cons_zero, Option.some.injEq] at ho
    subst ho
    have xg : a.tmps[196]?.getD undef = .bool false := by rw [← ev]; exact hG.val 2 2 196 _ rfl (hdep ⟨2, .guard⟩ (by simp) rfl)
    have hw := wanted_of (ops := opsKpl21a) (a := a) (o := { dst := some 200, op := Op.move (Operand.tmp 20), type := 47, pos := "law.go:106", after := #[{ on := 2, ground := Ground.guard }], guard := some (2, false) }) (g := 2) (s := 196) (b := false) (b' := false) rfl rfl xg
    replace hw := hw.trans (show (false == false) = true from rfl)
    rw [if_pos hw]
    clear hw xg
    have hfin := hK (.slice Ay nx cy) w (hG.quiet 5 6 200 _ rfl (by kernel_rfl) (by kernel_rfl))
    have HK := Lib.hid hfin
    clear hG hcl hdep hfr hK hfin hLi 
    go_simp
    exact HK.out
  | 7, ho =>
    simp only [opsKpl21a, List.getElem?_toArray, List.getElem?_cons_succ, List.getElem?_cons_zero, Option.some.injEq] at ho
    subst ho
    have x200 : a.tmps[200]?.getD undef = .slice Ay nx cy := by rw [← ev]; exact hG.val 5 6 200 _ rfl (hdep ⟨6, .data⟩ (by simp) rfl)
    have xg : a.tmps[196]?.getD undef = .bool false := by rw [← ev]; exact hG.val 2 2 196 _ rfl (hdep ⟨2, .guard⟩ (by simp) rfl)
    have hw := wanted_of (ops := opsKpl21a) (a := a) (o := { dst := some 201, op := Op.call { callee := Callee.value (Operand.func 20), args := #[Operand.tmp 200], argTypes := #[47] }, type := 27, pos := "law.go:106", after := #[{ on := 6, ground := Ground.data }, { on := 4, ground := Ground.chain }, { on := 2, ground := Ground.guard }], guard := some (2, false) }) (g := 2) (s := 196) (b := false) (b' := false) rfl rfl xg
    replace hw := hw.trans (show (false == false) = true from rfl)
    rw [if_pos hw]
    clear hw xg
    have hSj := hG.at 1 (7, 201) rfl hLi (fun c h0 hc => by simp [kpl21aC] at hc; subst hc; exact hdep ⟨4, .chain⟩ (by simp) rfl)
    have hfin := fun v w' hs => hK v w' (hG.call 1 (7, 201) rfl hLi (fun c h0 hc => by simp [kpl21aC] at hc; subst hc; exact hdep ⟨4, .chain⟩ (by simp) rfl) (by kernel_rfl) v w' hs)
    have HK := Lib.hid hfin
    generalize (resOf kpl21aC fun t => a.eval (.tmp t)) = R at *
    clear hG hcl hdep hfr hK hfin hLi
    have hc := Lib.hid (hc1 _ _ hSj)
    clear hSj hcv hc0 hc1
    go_simp
    go_at_call 20
    refine hc.out.mono ?_
    rintro e w' ⟨v, rfl, hs⟩
    exact HK.out v w' hs
  | 8, ho =>
    simp only [opsKpl21a, List.getElem?_toArray, List.getElem?_cons_succ, List.getElem?_cons_zero, Option.some.injEq] at ho
    subst ho
    have xg : a.tmps[196]?.getD undef = .bool false := by rw [← ev]; exact hG.val 2 2 196 _ rfl (hdep ⟨2, .guard⟩ (by simp) rfl)
    have hw := wanted_of (ops := opsKpl21a) (a := a) (o := { dst := some 202, op := Op.convert 27 9 (Operand.tmp 201), type := 9, pos := "law.go:106", after := #[{ on := 7, ground := Ground.data }, { on := 2, ground := Ground.guard }], guard := some (2, false) }) (g := 2) (s := 196) (b := false) (b' := false) rfl rfl xg
    replace hw := hw.trans (show (false == false) = true from rfl)
    rw [if_pos hw]
    clear hw xg
    obtain ⟨ph, hSp, hdone⟩ := hG.any
    have hd201 : 1 < ph := hdone 1 (7, 201) rfl (hdep ⟨7, .data⟩ (by simp) rfl)
    have r201 : a.tmps[201]?.getD undef = resOf kpl21aC (fun t => a.eval (.tmp t)) 1 := by rw [← ev]; exact (resOf_at (C := kpl21aC) (j := 1) rfl a).symm
    have hfin := hK (.string bs) w (hG.quiet 6 8 202 _ rfl (by kernel_rfl) (by kernel_rfl))
    have HK := Lib.hid hfin
    generalize (resOf kpl21aC fun t => a.eval (.tmp t)) = R at *
    obtain ⟨A2, c2, q1, q2⟩ := hcv _ _ _ hSp 1 hd201 (by decide)
    rw [q1] at r201
    clear hcv hc0 hc1 q1 hd201
    clear hSp hdone
    clear hG hcl hdep hfr hK hfin hLi 
    go_simp
    exact HK.out
  | 9, ho =>
    simp only [opsKpl21a, List.getElem?_toArray, List.getElem?_cons_succ, List.getElem?_cons_zero, Option.some.injEq] at ho
    subst ho
    have x199 : a.tmps[199]?.getD undef = .string bs := by rw [← ev]; exact hG.val 4 5 199 _ rfl (hdep ⟨5, .data⟩ (by simp) rfl)
    have x202 : a.tmps[202]?.getD undef = .string bs := by rw [← ev]; exact hG.val 6 8 202 _ rfl (hdep ⟨8, .data⟩ (by simp) rfl)
    have xg : a.tmps[196]?.getD undef = .bool false := by rw [← ev]; exact hG.val 2 2 196 _ rfl (hdep ⟨2, .guard⟩ (by simp) rfl)
    have hw := wanted_of (ops := opsKpl21a) (a := a) (o := { dst := some 203, op := Op.binOp BinOp.eql 9 (Operand.tmp 199) (Operand.tmp 202) 9, type := 4, pos := "law.go:106", after := #[{ on := 5, ground := Ground.data }, { on := 8, ground := Ground.data }, { on := 2, ground := Ground.guard }], guard := some (2, false) }) (g := 2) (s := 196) (b := false) (b' := false) rfl rfl xg
    replace hw := hw.trans (show (false == false) = true from rfl)
    rw [if_pos hw]
    clear hw xg
    have hfin := hK (.bool true) w (hG.quiet 7 9 203 _ rfl (by kernel_rfl) (by kernel_rfl))
    have HK := Lib.hid hfin
    clear hG hcl hdep hfr hK hfin hLi 
    go_simp
    exact HK.out
  | 10, ho =>
    simp only [opsKpl21a, List.getElem?_toArray, List.getElem?_cons_succ, List.getElem?_cons_zero, Option.some.injEq] at ho
    subst ho
    have x203 : a.tmps[203]?.getD undef = .bool true := by rw [← ev]; exact hG.val 7 9 203 _ rfl (hdep ⟨9, .data⟩ (by simp) rfl)
    have xg : a.tmps[196]?.getD undef = .bool false := by rw [← ev]; exact hG.val 2 2 196 _ rfl (hdep ⟨2, .guard⟩ (by simp) rfl)
    have hw := wanted_of (ops := opsKpl21a) (a := a) (o := { dst := some 204, op := Op.move (Operand.tmp 203), type := 4, pos := "law.go:106", after := #[{ on := 9, ground := Ground.data }, { on := 7, ground := Ground.chain }, { on := 2, ground := Ground.guard }], guard := some (2, false) }) (g := 2) (s := 196) (b := false) (b' := false) rfl rfl xg
    replace hw := hw.trans (show (false == false) = true from rfl)
    rw [if_pos hw]
    clear hw xg
    have hfin := hK (.bool true) w (hG.quiet 8 10 204 _ rfl (by kernel_rfl) (by kernel_rfl))
    have HK := Lib.hid hfin
    clear hG hcl hdep hfr hK hfin hLi 
    go_simp
    exact HK.out
  | 11, ho =>
    simp only [opsKpl21a, List.getElem?_toArray, List.getElem?_cons_succ, List.getElem?_cons_zero, Option.some.injEq] at ho
    subst ho
    have xg : a.tmps[204]?.getD undef = .bool true := by rw [← ev]; exact hG.val 8 10 204 _ rfl (hdep ⟨10, .guard⟩ (by simp) rfl)
    have hw := wanted_of (ops := opsKpl21a) (a := a) (o := { dst := some 205, op := Op.move (Operand.tmp 18), type := 31, pos := "law.go:106", after := #[{ on := 10, ground := Ground.guard }], guard := some (10, true) }) (g := 10) (s := 204) (b := true) (b' := true) rfl rfl xg
    replace hw := hw.trans (show (true == true) = true from rfl)
    rw [if_pos hw]
    clear hw xg
    have hfin := hK (.slice Ax nx cx) w (hG.quiet 9 11 205 _ rfl (by kernel_rfl) (by kernel_rfl))
    have HK := Lib.hid hfin
    clear hG hcl hdep hfr hK hfin hLi 
    go_simp
    exact HK.out
  | 12, ho =>
    simp only [opsKpl21a, List.getElem?_toArray, List.getElem?_cons_succ, List.getElem?_cons_zero, Option.some.injEq] at ho
    subst ho
    have x205 : a.tmps[205]?.getD undef = .slice Ax nx cx := by rw [← ev]; exact hG.val 9 11 205 _ rfl (hdep ⟨11, .data⟩ (by simp) rfl)
    have xg : a.tmps[204]?.getD undef = .bool true := by rw [← ev]; exact hG.val 8 10 204 _ rfl (hdep ⟨10, .guard⟩ (by simp) rfl)
    have hw := wanted_of (ops := opsKpl21a) (a := a) (o := { dst := some 206, op := Op.call { callee := Callee.builtin Builtin.len, args := #[Operand.tmp 205], argTypes := #[31] }, type := 3, pos := "law.go:106", after := #[{ on := 11, ground := Ground.data }, { on := 10, ground := Ground.guard }], guard := some (10, true) }) (g := 10) (s := 204) (b := true) (b' := true) rfl rfl xg
    replace hw := hw.trans (show (true == true) = true from rfl)
    rw [if_pos hw]
    clear hw xg
    have hfin := hK (.int .i64 (nx : Int)) w (hG.quiet 10 12 206 _ rfl (by kernel_rfl) (by kernel_rfl))
    have HK := Lib.hid hfin
    clear hG hcl hdep hfr hK hfin hLi 
    go_simp
    exact HK.out
  | 13, ho =>
    simp only [opsKpl21a, List.getElem?_toArray, List.getElem?_cons_succ, List.getElem?_cons_zero, Option.some.injEq] at ho
    subst ho
    have xg : a.tmps[204]?.getD undef = .bool true := by rw [← ev]; exact hG.val 8 10 204 _ rfl (hdep ⟨10, .guard⟩ (by simp) rfl)
    have hw := wanted_of (ops := opsKpl21a) (a := a) (o := { dst := some 207, op := Op.move (Operand.tmp 20), type := 47, pos := "law.go:106", after := #[{ on := 10, ground := Ground.guard }], guard := some (10, true) }) (g := 10) (s := 204) (b := true) (b' := true) rfl rfl xg
    replace hw := hw.trans (show (true == true) = true from rfl)
    rw [if_pos hw]
    clear hw xg
    have hfin := hK (.slice Ay nx cy) w (hG.quiet 11 13 207 _ rfl (by kernel_rfl) (by kernel_rfl))
    have HK := Lib.hid hfin
    clear hG hcl hdep hfr hK hfin hLi 
    go_simp
    exact HK.out
  | 14, ho =>
    simp only [opsKpl21a, List.getElem?_toArray, List.getElem?_cons_succ, List.getElem?_cons_zero, Option.some.injEq] at ho
    subst ho
    have x207 : a.tmps[207]?.getD undef = .slice Ay nx cy := by rw [← ev]; exact hG.val 11 13 207 _ rfl (hdep ⟨13, .data⟩ (by simp) rfl)
    have xg : a.tmps[204]?.getD undef = .bool true := by rw [← ev]; exact hG.val 8 10 204 _ rfl (hdep ⟨10, .guard⟩ (by simp) rfl)
    have hw := wanted_of (ops := opsKpl21a) (a := a) (o := { dst := some 208, op := Op.call { callee := Callee.builtin Builtin.len, args := #[Operand.tmp 207], argTypes := #[47] }, type := 3, pos := "law.go:106", after := #[{ on := 13, ground := Ground.data }, { on := 10, ground := Ground.guard }], guard := some (10, true) }) (g := 10) (s := 204) (b := true) (b' := true) rfl rfl xg
    replace hw := hw.trans (show (true == true) = true from rfl)
    rw [if_pos hw]
    clear hw xg
    have hfin := hK (.int .i64 (nx : Int)) w (hG.quiet 12 14 208 _ rfl (by kernel_rfl) (by kernel_rfl))
    have HK := Lib.hid hfin
    clear hG hcl hdep hfr hK hfin hLi 
    go_simp
    exact HK.out
  | 15, ho =>
    simp only [opsKpl21a, List.getElem?_toArray, List.getElem?_cons_succ, List.getElem?_cons_zero, Option.some.injEq] at ho
    subst ho
    have x206 : a.tmps[206]?.getD undef = .int .i64 (nx : Int) := by rw [← ev]; exact hG.val 10 12 206 _ rfl (hdep ⟨12, .data⟩ (by simp) rfl)
    have x208 : a.tmps[208]?.getD undef = .int .i64 (nx : Int) := by rw [← ev]; exact hG.val 12 14 208 _ rfl (hdep ⟨14, .data⟩ (by simp) rfl)
    have xg : a.tmps[204]?.getD undef = .bool true := by rw [← ev]; exact hG.val 8 10 204 _ rfl (hdep ⟨10, .guard⟩ (by simp) rfl)
    have hw := wanted_of (ops := opsKpl21a) (a := a) (o := { dst := some 209, op := Op.binOp BinOp.eql 3 (Operand.tmp 206) (Operand.tmp 208) 3, type := 4, pos := "law.go:106", after := #[{ on := 12, ground := Ground.data }, { on := 14, ground := Ground.data }, { on := 10, ground := Ground.guard }], guard := some (10, true) }) (g := 10) (s := 204) (b := true) (b' := true) rfl rfl xg
    replace hw := hw.trans (show (true == true) = true from rfl)
    rw [if_pos hw]
    clear hw xg
    have hfin := hK (.bool true) w (hG.quiet 13 15 209 _ rfl (by kernel_rfl) (by kernel_rfl))
    have HK := Lib.hid hfin
    clear hG hcl hdep hfr hK hfin hLi 
    go_simp
    exact HK.out
  | 16, ho =>
    simp only [opsKpl21a, List.getElem?_toArray, List.getElem?_cons_succ, List.getElem?_cons_zero, Option.some.injEq] at ho
    subst ho
    have x204 : a.tmps[204]?.getD undef = .bool true := by rw [← ev]; exact hG.val 8 10 204 _ rfl (hdep ⟨10, .data⟩ (by simp) rfl)
    have x209 : a.tmps[209]?.getD undef = .bool true := by rw [← ev]; exact hG.val 13 15 209 _ rfl (hdep ⟨15, .data⟩ (by simp) rfl)
    have xg : a.tmps[196]?.getD undef = .bool false := by rw [← ev]; exact hG.val 2 2 196 _ rfl (hdep ⟨2, .guard⟩ (by simp) rfl)
    have hw := wanted_of (ops := opsKpl21a) (a := a) (o := { dst := some 210, op := Op.pick (Operand.tmp 204) (Operand.tmp 209) (Operand.const (Value.bool false)), type := 4, pos := "law.go:106", after := #[{ on := 10, ground := Ground.data }, { on := 15, ground := Ground.data }, { on := 2, ground := Ground.guard }], guard := some (2, false) }) (g := 2) (s := 196) (b := false) (b' := false) rfl rfl xg
    replace hw := hw.trans (show (false == false) = true from rfl)
    rw [if_pos hw]
    clear hw xg
    have hfin := hK (.bool true) w (hG.quiet 14 16 210 _ rfl (by kernel_rfl) (by kernel_rfl))
    have HK := Lib.hid hfin
    clear hG hcl hdep hfr hK hfin hLi 
    go_simp
    exact HK.out
  | 17, ho =>
    simp only [opsKpl21a, List.getElem?_toArray, List.getElem?_cons_succ, List.getElem?_cons_zero, Option.some.injEq] at ho
    subst ho
    have x210 : a.tmps[210]?.getD undef = .bool true := by rw [← ev]; exact hG.val 14 16 210 _ rfl (hdep ⟨16, .data⟩ (by simp) rfl)
    have xg : a.tmps[196]?.getD undef = .bool false := by rw [← ev]; exact hG.val 2 2 196 _ rfl (hdep ⟨2, .guard⟩ (by simp) rfl)
    have hw := wanted_of (ops := opsKpl21a) (a := a) (o := { dst := some 211, op := Op.move (Operand.tmp 210), type := 4, pos := "law.go:106", after := #[{ on := 16, ground := Ground.data }, { on := 10, ground := Ground.chain }, { on := 2, ground := Ground.guard }], guard := some (2, false) }) (g := 2) (s := 196) (b := false) (b' := false) rfl rfl xg
    replace hw := hw.trans (show (false == false) = true from rfl)
    rw [if_pos hw]
    clear hw xg
    have hfin := hK (.bool true) w (hG.quiet 15 17 211 _ rfl (by kernel_rfl) (by kernel_rfl))
    have HK := Lib.hid hfin
    clear hG hcl hdep hfr hK hfin hLi 
    go_simp
    exact HK.out
  | 18, ho =>
    simp only [opsKpl21a, List.getElem?_toArray, List.getElem?_cons_succ, List.getElem?_cons_zero, Option.some.injEq] at ho
    subst ho
    have xg : a.tmps[211]?.getD undef = .bool true := by rw [← ev]; exact hG.val 15 17 211 _ rfl (hdep ⟨17, .guard⟩ (by simp) rfl)
    have hw := wanted_of (ops := opsKpl21a) (a := a) (o := { dst := some 212, op := Op.move (Operand.tmp 25), type := 4, pos := "law.go:106", after := #[{ on := 17, ground := Ground.guard }], guard := some (17, true) }) (g := 17) (s := 211) (b := true) (b' := true) rfl rfl xg
    replace hw := hw.trans (show (true == true) = true from rfl)
    rw [if_pos hw]
    clear hw xg
    have hfin := hK (.bool false) w (hG.quiet 16 18 212 _ rfl (by kernel_rfl) (by kernel_rfl))
    have HK := Lib.hid hfin
    clear hG hcl hdep hfr hK hfin hLi 
    go_simp
    exact HK.out
  | 19, ho =>
    simp only [opsKpl21a, List.getElem?_toArray, List.getElem?_cons_succ, List.getElem?_cons_zero, Option.some.injEq] at ho
    subst ho
    have x212 : a.tmps[212]?.getD undef = .bool false := by rw [← ev]; exact hG.val 16 18 212 _ rfl (hdep ⟨18, .data⟩ (by simp) rfl)
    have xg : a.tmps[211]?.getD undef = .bool true := by rw [← ev]; exact hG.val 15 17 211 _ rfl (hdep ⟨17, .guard⟩ (by simp) rfl)
    have hw := wanted_of (ops := opsKpl21a) (a := a) (o := { dst := some 213, op := Op.unOp UnOp.not 4 (Operand.tmp 212), type := 4, pos := "law.go:106", after := #[{ on := 18, ground := Ground.data }, { on := 17, ground := Ground.guard }], guard := some (17, true) }) (g := 17) (s := 211) (b := true) (b' := true) rfl rfl xg
    replace hw := hw.trans (show (true == true) = true from rfl)
    rw [if_pos hw]
    clear hw xg
    have hfin := hK (.bool true) w (hG.quiet 17 19 213 _ rfl (by kernel_rfl) (by kernel_rfl))
    have HK := Lib.hid hfin
    clear hG hcl hdep hfr hK hfin hLi 
    go_simp
    exact HK.out
  | 20, ho =>
    simp only [opsKpl21a, List.getElem?_toArray, List.getElem?_cons_succ, List.getElem?_cons_zero, Option.some.injEq] at ho
    subst ho
    have x213 : a.tmps[213]?.getD undef = .bool true := by rw [← ev]; exact hG.val 17 19 213 _ rfl (hdep ⟨19, .data⟩ (by simp) rfl)
    have xg : a.tmps[211]?.getD undef = .bool true := by rw [← ev]; exact hG.val 15 17 211 _ rfl (hdep ⟨17, .chain⟩ (by simp) rfl)
    have hw := wanted_of (ops := opsKpl21a) (a := a) (o := { dst := some 214, op := Op.move (Operand.tmp 213), type := 4, pos := "law.go:106", after := #[{ on := 19, ground := Ground.data }, { on := 17, ground := Ground.chain }, { on := 17, ground := Ground.guard }], guard := some (17, true) }) (g := 17) (s := 211) (b := true) (b' := true) rfl rfl xg
    replace hw := hw.trans (show (true == true) = true from rfl)
    rw [if_pos hw]
    clear hw xg
    have hfin := hK (.bool true) w (hG.quiet 18 20 214 _ rfl (by kernel_rfl) (by kernel_rfl))
    have HK := Lib.hid hfin
    clear hG hcl hdep hfr hK hfin hLi 
    go_simp
    exact HK.out
  | 21, ho =>
    simp only [opsKpl21a, List.getElem?_toArray, List.getElem?_cons_succ, List.getElem?_cons_zero, Option.some.injEq] at ho
    subst ho
    have xg : a.tmps[214]?.getD undef = .bool true := by rw [← ev]; exact hG.val 18 20 214 _ rfl (hdep ⟨20, .guard⟩ (by simp) rfl)
    have hw := wanted_of (ops := opsKpl21a) (a := a) (o := { dst := some 215, op := Op.move (Operand.tmp 22), type := 23, pos := "law.go:106", after := #[{ on := 20, ground := Ground.guard }], guard := some (20, false) }) (g := 20) (s := 214) (b := false) (b' := true) rfl rfl xg
    rw [if_neg (fun h => by rw [hw] at h; exact absurd h (by decide))]
    clear hw xg
    have hfin := hK (undef) w (hG.quiet 19 21 215 _ rfl (by kernel_rfl) (by kernel_rfl))
    have HK := Lib.hid hfin
    clear hG hcl hdep hfr hK hfin hLi 
    exact HK.out
  | 22, ho =>
    simp only [opsKpl21a, List.getElem?_toArray, List.getElem?_cons_succ, List.getElem?_cons_zero, Option.some.injEq] at ho
    subst ho
    have x215 : a.tmps[215]?.getD undef = undef := by rw [← ev]; exact hG.val 19 21 215 _ rfl (hdep ⟨21, .data⟩ (by simp) rfl)
    have xg : a.tmps[214]?.getD undef = .bool true := by rw [← ev]; exact hG.val 18 20 214 _ rfl (hdep ⟨20, .guard⟩ (by simp) rfl)
    have hw := wanted_of (ops := opsKpl21a) (a := a) (o := { dst := some 216, op := Op.binOp BinOp.neq 23 (Operand.tmp 215) (Operand.const (Value.pointer none)) 23, type := 4, pos := "law.go:106", after := #[{ on := 21, ground := Ground.data }, { on := 20, ground := Ground.guard }], guard := some (20, false) }) (g := 20) (s := 214) (b := false) (b' := true) rfl rfl xg
    rw [if_neg (fun h => by rw [hw] at h; exact absurd h (by decide))]
    clear hw xg
    have hfin := hK (undef) w (hG.quiet 20 22 216 _ rfl (by kernel_rfl) (by kernel_rfl))
    have HK := Lib.hid hfin
    clear hG hcl hdep hfr hK hfin hLi 
    exact HK.out
  | 23, ho =>
    simp only [opsKpl21a, List.getElem?_toArray, List.getElem?_cons_succ, List.getElem?_cons_zero, Option.some.injEq] at ho
    subst ho
    have x216 : a.tmps[216]?.getD undef = undef := by rw [← ev]; exact hG.val 20 22 216 _ rfl (hdep ⟨22, .data⟩ (by simp) rfl)
    have xg : a.tmps[214]?.getD undef = .bool true := by rw [← ev]; exact hG.val 18 20 214 _ rfl (hdep ⟨20, .chain⟩ (by simp) rfl)
    have hw := wanted_of (ops := opsKpl21a) (a := a) (o := { dst := some 217, op := Op.move (Operand.tmp 216), type := 4, pos := "law.go:106", after := #[{ on := 22, ground := Ground.data }, { on := 20, ground := Ground.chain }, { on := 20, ground := Ground.guard }], guard := some (20, false) }) (g := 20) (s := 214) (b := false) (b' := true) rfl rfl xg
    rw [if_neg (fun h => by rw [hw] at h; exact absurd h (by decide))]
    clear hw xg
    have hfin := hK (undef) w (hG.quiet 21 23 217 _ rfl (by kernel_rfl) (by kernel_rfl))
    have HK := Lib.hid hfin
    clear hG hcl hdep hfr hK hfin hLi 
    exact HK.out
  | 24, ho =>
    simp only [opsKpl21a, List.getElem?_toArray, List.getElem?_cons_succ, List.getElem?_cons_zero, Option.some.injEq] at ho
    subst ho
    have xg : a.tmps[217]?.getD undef = undef := by rw [← ev]; exact hG.val 21 23 217 _ rfl (hdep ⟨23, .guard⟩ (by simp) rfl)
    have hw := wanted_undef (ops := opsKpl21a) (a := a) (o := { dst := some 218, op := Op.move (Operand.tmp 22), type := 23, pos := "law.go:106", after := #[{ on := 23, ground := Ground.guard }], guard := some (23, true) }) (g := 23) (s := 217) (b := true) rfl rfl xg
    rw [if_neg (fun h => by rw [hw] at h; exact absurd h (by decide))]
    clear hw xg
    have hfin := hK (undef) w (hG.quiet 22 24 218 _ rfl (by kernel_rfl) (by kernel_rfl))
    have HK := Lib.hid hfin
    clear hG hcl hdep hfr hK hfin hLi 
    exact HK.out
  | 25, ho =>
    simp only [opsKpl21a, List.getElem?_toArray, List.getElem?_cons_succ, List.getElem?_cons_zero, Option.some.injEq] at ho
    subst ho
    have x218 : a.tmps[218]?.getD undef = undef := by rw [← ev]; exact hG.val 22 24 218 _ rfl (hdep ⟨24, .data⟩ (by simp) rfl)
    have xg : a.tmps[217]?.getD undef = undef := by rw [← ev]; exact hG.val 21 23 217 _ rfl (hdep ⟨23, .chain⟩ (by simp) rfl)
    have hw := wanted_undef (ops := opsKpl21a) (a := a) (o := { dst := some 219, op := Op.call { callee := Callee.value (Operand.func 14), args := #[Operand.tmp 218], argTypes := #[23] }, type := 27, pos := "law.go:106", after := #[{ on := 24, ground := Ground.data }, { on := 23, ground := Ground.chain }, { on := 23, ground := Ground.guard }], guard := some (23, true) }) (g := 23) (s := 217) (b := true) rfl rfl xg
    rw [if_neg (fun h => by rw [hw] at h; exact absurd h (by decide))]
    clear hw xg
    have hfin := hK (undef) w (hG.quiet 23 25 219 _ rfl (by kernel_rfl) (by kernel_rfl))
    have HK := Lib.hid hfin
    clear hG hcl hdep hfr hK hfin hLi 
    exact HK.out
  | 26, ho =>
    simp only [opsKpl21a, List.getElem?_toArray, List.getElem?_cons_succ, List.getElem?_cons_zero, Option.some.injEq] at ho
    subst ho
    have x219 : a.tmps[219]?.getD undef = undef := by rw [← ev]; exact hG.val 23 25 219 _ rfl (hdep ⟨25, .data⟩ (by simp) rfl)
    have xg : a.tmps[217]?.getD undef = undef := by rw [← ev]; exact hG.val 21 23 217 _ rfl (hdep ⟨23, .guard⟩ (by simp) rfl)
    have hw := wanted_undef (ops := opsKpl21a) (a := a) (o := { dst := some 220, op := Op.convert 27 9 (Operand.tmp 219), type := 9, pos := "law.go:106", after := #[{ on := 25, ground := Ground.data }, { on := 23, ground := Ground.guard }], guard := some (23, true) }) (g := 23) (s := 217) (b := true) rfl rfl xg
    rw [if_neg (fun h => by rw [hw] at h; exact absurd h (by decide))]
    clear hw xg
    have hfin := hK (undef) w (hG.quiet 24 26 220 _ rfl (by kernel_rfl) (by kernel_rfl))
    have HK := Lib.hid hfin
    clear hG hcl hdep hfr hK hfin hLi 
    exact HK.out
  | 27, ho =>
    simp only [opsKpl21a, List.getElem?_toArray, List.getElem?_cons_succ, List.getElem?_cons_zero, Option.some.injEq] at ho
    subst ho
    have xg : a.tmps[217]?.getD undef = undef := by rw [← ev]; exact hG.val 21 23 217 _ rfl (hdep ⟨23, .guard⟩ (by simp) rfl)
    have hw := wanted_undef (ops := opsKpl21a) (a := a) (o := { dst := some 221, op := Op.move (Operand.tmp 24), type := 42, pos := "law.go:106", after := #[{ on := 23, ground := Ground.guard }], guard := some (23, true) }) (g := 23) (s := 217) (b := true) rfl rfl xg
    rw [if_neg (fun h => by rw [hw] at h; exact absurd h (by decide))]
    clear hw xg
    have hfin := hK (undef) w (hG.quiet 25 27 221 _ rfl (by kernel_rfl) (by kernel_rfl))
    have HK := Lib.hid hfin
    clear hG hcl hdep hfr hK hfin hLi 
    exact HK.out
  | 28, ho =>
    simp only [opsKpl21a, List.getElem?_toArray, List.getElem?_cons_succ, List.getElem?_cons_zero, Option.some.injEq] at ho
    subst ho
    have x221 : a.tmps[221]?.getD undef = undef := by rw [← ev]; exact hG.val 25 27 221 _ rfl (hdep ⟨27, .data⟩ (by simp) rfl)
    have xg : a.tmps[217]?.getD undef = undef := by rw [← ev]; exact hG.val 21 23 217 _ rfl (hdep ⟨23, .guard⟩ (by simp) rfl)
    have hw := wanted_undef (ops := opsKpl21a) (a := a) (o := { dst := some 222, op := Op.call { callee := Callee.value (Operand.func 25), args := #[Operand.tmp 221], argTypes := #[42] }, type := 27, pos := "law.go:106", after := #[{ on := 27, ground := Ground.data }, { on := 25, ground := Ground.chain }, { on := 23, ground := Ground.guard }], guard := some (23, true) }) (g := 23) (s := 217) (b := true) rfl rfl xg
    rw [if_neg (fun h => by rw [hw] at h; exact absurd h (by decide))]
    clear hw xg
    have hfin := hK (undef) w (hG.quiet 26 28 222 _ rfl (by kernel_rfl) (by kernel_rfl))
    have HK := Lib.hid hfin
    clear hG hcl hdep hfr hK hfin hLi 
    exact HK.out
  | 29, ho =>
    simp only [opsKpl21a, List.getElem?_toArray, List.getElem?_cons_succ, List.getElem?_cons_zero, Option.some.injEq] at ho
    subst ho
    have x222 : a.tmps[222]?.getD undef = undef := by rw [← ev]; exact hG.val 26 28 222 _ rfl (hdep ⟨28, .data⟩ (by simp) rfl)
    have xg : a.tmps[217]?.getD undef = undef := by rw [← ev]; exact hG.val 21 23 217 _ rfl (hdep ⟨23, .guard⟩ (by simp) rfl)
    have hw := wanted_undef (ops := opsKpl21a) (a := a) (o := { dst := some 223, op := Op.convert 27 9 (Operand.tmp 222), type := 9, pos := "law.go:106", after := #[{ on := 28, ground := Ground.data }, { on := 23, ground := Ground.guard }], guard := some (23, true) }) (g := 23) (s := 217) (b := true) rfl rfl xg
    rw [if_neg (fun h => by rw [hw] at h; exact absurd h (by decide))]
    clear hw xg
    have hfin := hK (undef) w (hG.quiet 27 29 223 _ rfl (by kernel_rfl) (by kernel_rfl))
    have HK := Lib.hid hfin
    clear hG hcl hdep hfr hK hfin hLi 
    exact HK.out
  | 30, ho =>
    simp only [opsKpl21a, List.getElem?_toArray, List.getElem?_cons_succ, List.getElem?_cons_zero, Option.some.injEq] at ho
    subst ho
    have x220 : a.tmps[220]?.getD undef = undef := by rw [← ev]; exact hG.val 24 26 220 _ rfl (hdep ⟨26, .data⟩ (by simp) rfl)
    have x223 : a.tmps[223]?.getD undef = undef := by rw [← ev]; exact hG.val 27 29 223 _ rfl (hdep ⟨29, .data⟩ (by simp) rfl)
    have xg : a.tmps[217]?.getD undef = undef := by rw [← ev]; exact hG.val 21 23 217 _ rfl (hdep ⟨23, .guard⟩ (by simp) rfl)
    have hw := wanted_undef (ops := opsKpl21a) (a := a) (o := { dst := some 224, op := Op.binOp BinOp.eql 9 (Operand.tmp 220) (Operand.tmp 223) 9, type := 4, pos := "law.go:106", after := #[{ on := 26, ground := Ground.data }, { on := 29, ground := Ground.data }, { on := 23, ground := Ground.guard }], guard := some (23, true) }) (g := 23) (s := 217) (b := true) rfl rfl xg
    rw [if_neg (fun h => by rw [hw] at h; exact absurd h (by decide))]
    clear hw xg
    have hfin := hK (undef) w (hG.quiet 28 30 224 _ rfl (by kernel_rfl) (by kernel_rfl))
    have HK := Lib.hid hfin
    clear hG hcl hdep hfr hK hfin hLi 
    exact HK.out
  | 31, ho =>
    simp only [opsKpl21a, List.getElem?_toArray, List.getElem?_cons_succ, List.getElem?_cons_zero, Option.some.injEq] at ho
    subst ho
    have x217 : a.tmps[217]?.getD undef = undef := by rw [← ev]; exact hG.val 21 23 217 _ rfl (hdep ⟨23, .data⟩ (by simp) rfl)
    have x224 : a.tmps[224]?.getD undef = undef := by rw [← ev]; exact hG.val 28 30 224 _ rfl (hdep ⟨30, .data⟩ (by simp) rfl)
    have xg : a.tmps[214]?.getD undef = .bool true := by rw [← ev]; exact hG.val 18 20 214 _ rfl (hdep ⟨20, .guard⟩ (by simp) rfl)
    have hw := wanted_of (ops := opsKpl21a) (a := a) (o := { dst := some 225, op := Op.pick (Operand.tmp 217) (Operand.tmp 224) (Operand.const (Value.bool false)), type := 4, pos := "law.go:106", after := #[{ on := 23, ground := Ground.data }, { on := 30, ground := Ground.data }, { on := 20, ground := Ground.guard }], guard := some (20, false) }) (g := 20) (s := 214) (b := false) (b' := true) rfl rfl xg
    rw [if_neg (fun h => by rw [hw] at h; exact absurd h (by decide))]
    clear hw xg
    have hfin := hK (undef) w (hG.quiet 29 31 225 _ rfl (by kernel_rfl) (by kernel_rfl))
    have HK := Lib.hid hfin
    clear hG hcl hdep hfr hK hfin hLi 
    exact HK.out
  | 32, ho =>
    simp only [opsKpl21a, List.getElem?_toArray, List.getElem?_cons_succ, List.getElem?_cons_zero, Option.some.injEq] at ho
    subst ho
    have x214 : a.tmps[214]?.getD undef = .bool true := by rw [← ev]; exact hG.val 18 20 214 _ rfl (hdep ⟨20, .data⟩ (by simp) rfl)
    have x225 : a.tmps[225]?.getD undef = undef := by rw [← ev]; exact hG.val 29 31 225 _ rfl (hdep ⟨31, .data⟩ (by simp) rfl)
    have xg : a.tmps[211]?.getD undef = .bool true := by rw [← ev]; exact hG.val 15 17 211 _ rfl (hdep ⟨17, .guard⟩ (by simp) rfl)
    have hw := wanted_of (ops := opsKpl21a) (a := a) (o := { dst := some 226, op := Op.pick (Operand.tmp 214) (Operand.const (Value.bool true)) (Operand.tmp 225), type := 4, pos := "law.go:106", after := #[{ on := 20, ground := Ground.data }, { on := 31, ground := Ground.data }, { on := 17, ground := Ground.guard }], guard := some (17, true) }) (g := 17) (s := 211) (b := true) (b' := true) rfl rfl xg
    replace hw := hw.trans (show (true == true) = true from rfl)
    rw [if_pos hw]
    clear hw xg
    have hfin := hK (.bool true) w (hG.quiet 30 32 226 _ rfl (by kernel_rfl) (by kernel_rfl))
    have HK := Lib.hid hfin
    clear hG hcl hdep hfr hK hfin hLi 
    go_simp
    exact HK.out
  | 33, ho =>
    simp only [opsKpl21a, List.getElem?_toArray, List.getElem?_cons_succ, List.getElem?_cons_zero, Option.some.injEq] at ho
    subst ho
    have x211 : a.tmps[211]?.getD undef = .bool true := by rw [← ev]; exact hG.val 15 17 211 _ rfl (hdep ⟨17, .data⟩ (by simp) rfl)
    have x226 : a.tmps[226]?.getD undef = .bool true := by rw [← ev]; exact hG.val 30 32 226 _ rfl (hdep ⟨32, .data⟩ (by simp) rfl)
    have xg : a.tmps[196]?.getD undef = .bool false := by rw [← ev]; exact hG.val 2 2 196 _ rfl (hdep ⟨2, .guard⟩ (by simp) rfl)
    have hw := wanted_of (ops := opsKpl21a) (a := a) (o := { dst := some 227, op := Op.pick (Operand.tmp 211) (Operand.tmp 226) (Operand.const (Value.bool false)), type := 4, pos := "law.go:106", after := #[{ on := 17, ground := Ground.data }, { on := 32, ground := Ground.data }, { on := 2, ground := Ground.guard }], guard := some (2, false) }) (g := 2) (s := 196) (b := false) (b' := false) rfl rfl xg
    replace hw := hw.trans (show (false == false) = true from rfl)
    rw [if_pos hw]
    clear hw xg
    have hfin := hK (.bool true) w (hG.quiet 31 33 227 _ rfl (by kernel_rfl) (by kernel_rfl))
    have HK := Lib.hid hfin
    clear hG hcl hdep hfr hK hfin hLi 
    go_simp
    exact HK.out
  | 34, ho =>
    simp only [opsKpl21a, List.getElem?_toArray, List.getElem?_cons_succ, List.getElem?_cons_zero, Option.some.injEq] at ho
    subst ho
    have x196 : a.tmps[196]?.getD undef = .bool false := by rw [← ev]; exact hG.val 2 2 196 _ rfl (hdep ⟨2, .data⟩ (by simp) rfl)
    have x227 : a.tmps[227]?.getD undef = .bool true := by rw [← ev]; exact hG.val 31 33 227 _ rfl (hdep ⟨33, .data⟩ (by simp) rfl)
    rw [if_pos (show Region.wanted _ _ = true from rfl)]
    have hfin := hK (.bool true) w (hG.quiet 32 34 228 _ rfl (by kernel_rfl) (by kernel_rfl))
    have HK := Lib.hid hfin
    clear hG hcl hdep hfr hK hfin hLi 
    go_simp
    exact HK.out
  | 35, ho =>
    simp only [opsKpl21a, List.getElem?_toArray, List.getElem?_cons_succ, List.getElem?_cons_zero, Option.some.injEq] at ho
    subst ho
    have x228 : a.tmps[228]?.getD undef = .bool true := by rw [← ev]; exact hG.val 32 34 228 _ rfl (hdep ⟨34, .data⟩ (by simp) rfl)
    rw [if_pos (show Region.wanted _ _ = true from rfl)]
    have hfin := hK (.bool true) w (hG.quiet 33 35 10 _ rfl (by kernel_rfl) (by kernel_rfl))
    have HK := Lib.hid hfin
    clear hG hcl hdep hfr hK hfin hLi 
    go_simp
    exact HK.out
  | n + 36, ho => exact absurd (Array.getElem?_eq_some_iff.1 ho).1 (by show ¬ n + 36 < 36; omega)
end Go.Proofs.Ytgpkdnnlgafenaa

namespace Go.Proofs.Ytgpkdnnlgafenaa
open Go.RowKit
set_option linter.unusedVariables false
set_option linter.unusedSimpArgs false

def opsKpl21b : Array Oper := #[
  { dst := some 194, op := Op.move (Operand.tmp 21), type := 4, pos := "law.go:106", after := #[], guard := none },
  { dst := some 195, op := Op.unOp UnOp.not 4 (Operand.tmp 194), type := 4, pos := "law.go:106", after := #[{ on := 0, ground := Ground.data }], guard := none },
  { dst := some 196, op := Op.move (Operand.tmp 195), type := 4, pos := "law.go:106", after := #[{ on := 1, ground := Ground.data }], guard := none },
  { dst := some 197, op := Op.move (Operand.tmp 18), type := 31, pos := "law.go:106", after := #[{ on := 2, ground := Ground.guard }], guard := some (2, false) },
  { dst := some 198, op := Op.call { callee := Callee.value (Operand.func 16), args := #[Operand.tmp 197], argTypes := #[31] }, type := 27, pos := "law.go:106", after := #[{ on := 3, ground := Ground.data }, { on := 2, ground := Ground.chain }, { on := 2, ground := Ground.guard }], guard := some (2, false) },
  { dst := some 199, op := Op.convert 27 9 (Operand.tmp 198), type := 9, pos := "law.go:106", after := #[{ on := 4, ground := Ground.data }, { on := 2, ground := Ground.guard }], guard := some (2, false) },
  { dst := some 200, op := Op.move (Operand.tmp 20), type := 47, pos := "law.go:106", after := #[{ on := 2, ground := Ground.guard }], guard := some (2, false) },
  { dst := some 201, op := Op.call { callee := Callee.value (Operand.func 20), args := #[Operand.tmp 200], argTypes := #[47] }, type := 27, pos := "law.go:106", after := #[{ on := 6, ground := Ground.data }, { on := 4, ground := Ground.chain }, { on := 2, ground := Ground.guard }], guard := some (2, false) },
  { dst := some 202, op := Op.convert 27 9 (Operand.tmp 201), type := 9, pos := "law.go:106", after := #[{ on := 7, ground := Ground.data }, { on := 2, ground := Ground.guard }], guard := some (2, false) },
  { dst := some 203, op := Op.binOp BinOp.eql 9 (Operand.tmp 199) (Operand.tmp 202) 9, type := 4, pos := "law.go:106", after := #[{ on := 5, ground := Ground.data }, { on := 8, ground := Ground.data }, { on := 2, ground := Ground.guard }], guard := some (2, false) },
  { dst := some 204, op := Op.move (Operand.tmp 203), type := 4, pos := "law.go:106", after := #[{ on := 9, ground := Ground.data }, { on := 7, ground := Ground.chain }, { on := 2, ground := Ground.guard }], guard := some (2, false) },
  { dst := some 205, op := Op.move (Operand.tmp 18), type := 31, pos := "law.go:106", after := #[{ on := 10, ground := Ground.guard }], guard := some (10, true) },
  { dst := some 206, op := Op.call { callee := Callee.builtin Builtin.len, args := #[Operand.tmp 205], argTypes := #[31] }, type := 3, pos := "law.go:106", after := #[{ on := 11, ground := Ground.data }, { on := 10, ground := Ground.guard }], guard := some (10, true) },
  { dst := some 207, op := Op.move (Operand.tmp 20), type := 47, pos := "law.go:106", after := #[{ on := 10, ground := Ground.guard }], guard := some (10, true) },
  { dst := some 208, op := Op.call { callee := Callee.builtin Builtin.len, args := #[Operand.tmp 207], argTypes := #[47] }, type := 3, pos := "law.go:106", after := #[{ on := 13, ground := Ground.data }, { on := 10, ground := Ground.guard }], guard := some (10, true) },
  { dst := some 209, op := Op.binOp BinOp.eql 3 (Operand.tmp 206) (Operand.tmp 208) 3, type := 4, pos := "law.go:106", after := #[{ on := 12, ground := Ground.data }, { on := 14, ground := Ground.data }, { on := 10, ground := Ground.guard }], guard := some (10, true) },
  { dst := some 210, op := Op.pick (Operand.tmp 204) (Operand.tmp 209) (Operand.const (Value.bool false)), type := 4, pos := "law.go:106", after := #[{ on := 10, ground := Ground.data }, { on := 15, ground := Ground.data }, { on := 2, ground := Ground.guard }], guard := some (2, false) },
  { dst := some 211, op := Op.move (Operand.tmp 210), type := 4, pos := "law.go:106", after := #[{ on := 16, ground := Ground.data }, { on := 10, ground := Ground.chain }, { on := 2, ground := Ground.guard }], guard := some (2, false) },
  { dst := some 212, op := Op.move (Operand.tmp 25), type := 4, pos := "law.go:106", after := #[{ on := 17, ground := Ground.guard }], guard := some (17, true) },
  { dst := some 213, op := Op.unOp UnOp.not 4 (Operand.tmp 212), type := 4, pos := "law.go:106", after := #[{ on := 18, ground := Ground.data }, { on := 17, ground := Ground.guard }], guard := some (17, true) },
  { dst := some 214, op := Op.move (Operand.tmp 213), type := 4, pos := "law.go:106", after := #[{ on := 19, ground := Ground.data }, { on := 17, ground := Ground.chain }, { on := 17, ground := Ground.guard }], guard := some (17, true) },
  { dst := some 215, op := Op.move (Operand.tmp 22), type := 23, pos := "law.go:106", after := #[{ on := 20, ground := Ground.guard }], guard := some (20, false) },
  { dst := some 216, op := Op.binOp BinOp.neq 23 (Operand.tmp 215) (Operand.const (Value.pointer none)) 23, type := 4, pos := "law.go:106", after := #[{ on := 21, ground := Ground.data }, { on := 20, ground := Ground.guard }], guard := some (20, false) },
  { dst := some 217, op := Op.move (Operand.tmp 216), type := 4, pos := "law.go:106", after := #[{ on := 22, ground := Ground.data }, { on := 20, ground := Ground.chain }, { on := 20, ground := Ground.guard }], guard := some (20, false) },
  { dst := some 218, op := Op.move (Operand.tmp 22), type := 23, pos := "law.go:106", after := #[{ on := 23, ground := Ground.guard }], guard := some (23, true) },
  { dst := some 219, op := Op.call { callee := Callee.value (Operand.func 14), args := #[Operand.tmp 218], argTypes := #[23] }, type := 27, pos := "law.go:106", after := #[{ on := 24, ground := Ground.data }, { on := 23, ground := Ground.chain }, { on := 23, ground := Ground.guard }], guard := some (23, true) },
  { dst := some 220, op := Op.convert 27 9 (Operand.tmp 219), type := 9, pos := "law.go:106", after := #[{ on := 25, ground := Ground.data }, { on := 23, ground := Ground.guard }], guard := some (23, true) },
  { dst := some 221, op := Op.move (Operand.tmp 24), type := 42, pos := "law.go:106", after := #[{ on := 23, ground := Ground.guard }], guard := some (23, true) },
  { dst := some 222, op := Op.call { callee := Callee.value (Operand.func 25), args := #[Operand.tmp 221], argTypes := #[42] }, type := 27, pos := "law.go:106", after := #[{ on := 27, ground := Ground.data }, { on := 25, ground := Ground.chain }, { on := 23, ground := Ground.guard }], guard := some (23, true) },
  { dst := some 223, op := Op.convert 27 9 (Operand.tmp 222), type := 9, pos := "law.go:106", after := #[{ on := 28, ground := Ground.data }, { on := 23, ground := Ground.guard }], guard := some (23, true) },
  { dst := some 224, op := Op.binOp BinOp.eql 9 (Operand.tmp 220) (Operand.tmp 223) 9, type := 4, pos := "law.go:106", after := #[{ on := 26, ground := Ground.data }, { on := 29, ground := Ground.data }, { on := 23, ground := Ground.guard }], guard := some (23, true) },
  { dst := some 225, op := Op.pick (Operand.tmp 217) (Operand.tmp 224) (Operand.const (Value.bool false)), type := 4, pos := "law.go:106", after := #[{ on := 23, ground := Ground.data }, { on := 30, ground := Ground.data }, { on := 20, ground := Ground.guard }], guard := some (20, false) },
  { dst := some 226, op := Op.pick (Operand.tmp 214) (Operand.const (Value.bool true)) (Operand.tmp 225), type := 4, pos := "law.go:106", after := #[{ on := 20, ground := Ground.data }, { on := 31, ground := Ground.data }, { on := 17, ground := Ground.guard }], guard := some (17, true) },
  { dst := some 227, op := Op.pick (Operand.tmp 211) (Operand.tmp 226) (Operand.const (Value.bool false)), type := 4, pos := "law.go:106", after := #[{ on := 17, ground := Ground.data }, { on := 32, ground := Ground.data }, { on := 2, ground := Ground.guard }], guard := some (2, false) },
  { dst := some 228, op := Op.pick (Operand.tmp 196) (Operand.const (Value.bool true)) (Operand.tmp 227), type := 4, pos := "law.go:106", after := #[{ on := 2, ground := Ground.data }, { on := 33, ground := Ground.data }], guard := none },
  { dst := some 10, op := Op.assign (Operand.tmp 228), type := 4, pos := "law.go:106", after := #[{ on := 34, ground := Ground.data }, { on := 28, ground := Ground.chain }, { on := 0, ground := Ground.phase }, { on := 1, ground := Ground.phase }, { on := 2, ground := Ground.phase }, { on := 3, ground := Ground.phase }, { on := 4, ground := Ground.phase }, { on := 5, ground := Ground.phase }, { on := 6, ground := Ground.phase }, { on := 7, ground := Ground.phase }, { on := 8, ground := Ground.phase }, { on := 9, ground := Ground.phase }, { on := 10, ground := Ground.phase }, { on := 11, ground := Ground.phase }, { on := 12, ground := Ground.phase }, { on := 13, ground := Ground.phase }, { on := 14, ground := Ground.phase }, { on := 15, ground := Ground.phase }, { on := 16, ground := Ground.phase }, { on := 17, ground := Ground.phase }, { on := 18, ground := Ground.phase }, { on := 19, ground := Ground.phase }, { on := 20, ground := Ground.phase }, { on := 21, ground := Ground.phase }, { on := 22, ground := Ground.phase }, { on := 23, ground := Ground.phase }, { on := 24, ground := Ground.phase }, { on := 25, ground := Ground.phase }, { on := 26, ground := Ground.phase }, { on := 27, ground := Ground.phase }, { on := 28, ground := Ground.phase }, { on := 29, ground := Ground.phase }, { on := 30, ground := Ground.phase }, { on := 31, ground := Ground.phase }, { on := 32, ground := Ground.phase }, { on := 33, ground := Ground.phase }, { on := 34, ground := Ground.phase }], guard := none }]

def kpl21bVals (nx cx cy nb : Nat) (Ax Ay : Option Addr) (bs : ByteArray) (t u mb : Nat) (bb : ByteArray) : List (Nat × Nat × Value) := [(0, 194, .bool true), (1, 195, .bool false), (2, 196, .bool false), (3, 197, .slice Ax nx cx), (5, 199, .string bs), (6, 200, .slice Ay nx cy), (8, 202, .string bs), (9, 203, .bool true), (10, 204, .bool true), (11, 205, .slice Ax nx cx), (12, 206, .int .i64 (nx : Int)), (13, 207, .slice Ay nx cy), (14, 208, .int .i64 (nx : Int)), (15, 209, .bool true), (16, 210, .bool true), (17, 211, .bool true), (18, 212, .bool true), (19, 213, .bool false), (20, 214, .bool false), (21, 215, .pointer (some ⟨t, 0, none⟩)), (22, 216, .bool true), (23, 217, .bool true), (24, 218, .pointer (some ⟨t, 0, none⟩)), (26, 220, .string bb), (27, 221, .pointer (some ⟨u, 0, none⟩)), (29, 223, .string bb), (30, 224, .bool true), (31, 225, .bool true), (32, 226, .bool true), (33, 227, .bool true), (34, 228, .bool true), (35, 10, .bool true)]
def kpl21bC : List (Nat × Nat) := [(4, 198), (7, 201), (25, 219), (28, 222)]

set_option maxHeartbeats 8000000 in
set_option maxRecDepth 100000 in
theorem kpl21b {Q : Exit → Act → World → Prop} {a0 : Act} {wp : World} (nx cx cy nb : Nat) (Ax Ay : Option Addr) (bs : ByteArray) (t u mb : Nat) (bb : ByteArray) (S : Nat → (Nat → Value) → World → Prop)
    (hsz : 228 < a0.tmps.size) (in18 : a0.eval (.tmp 18) = .slice Ax nx cx) (in20 : a0.eval (.tmp 20) = .slice Ay nx cy) (in21 : a0.eval (.tmp 21) = .bool true) (in22 : a0.eval (.tmp 22) = .pointer (some ⟨t, 0, none⟩)) (in24 : a0.eval (.tmp 24) = .pointer (some ⟨u, 0, none⟩)) (in25 : a0.eval (.tmp 25) = .bool true)
    (hcv : ∀ p R w, S p R w → ∀ k, k < p → k = 0 ∨ k = 1 → ∃ A c, R k = .slice A nb c ∧ (convert 27 9 (.slice A nb c)).run Try.prog w = .ok (.string bs) w)
    (hcw : ∀ p R w, S p R w → ∀ k, k < p → k = 2 ∨ k = 3 → ∃ A c, R k = .slice A mb c ∧ (convert 27 9 (.slice A mb c)).run Try.prog w = .ok (.string bb) w)
    (hc0 : ∀ R w, S 0 R w → Calls Try.prog 16 #[.slice Ax nx cx] w fun e w' => ∃ v, e = .returned v ∧ S 1 (setR R 0 v) w')
    (hc1 : ∀ R w, S 1 R w → Calls Try.prog 20 #[.slice Ay nx cy] w fun e w' => ∃ v, e = .returned v ∧ S 2 (setR R 1 v) w')
    (hc2 : ∀ R w, S 2 R w → Calls Try.prog 14 #[.pointer (some ⟨t, 0, none⟩)] w fun e w' => ∃ v, e = .returned v ∧ S 3 (setR R 2 v) w')
    (hc3 : ∀ R w, S 3 R w → Calls Try.prog 25 #[.pointer (some ⟨u, 0, none⟩)] w fun e w' => ∃ v, e = .returned v ∧ S 4 (setR R 3 v) w')
    (hS : S 0 (resOf kpl21bC fun t => a0.eval (.tmp t)) wp.drew)
    (fin : ∀ a w, Fr [194, 195, 196, 197, 198, 199, 200, 201, 202, 203, 204, 205, 206, 207, 208, 209, 210, 211, 212, 213, 214, 215, 216, 217, 218, 219, 220, 221, 222, 223, 224, 225, 226, 227, 228, 10] a0 a → a.eval (.tmp 10) = .bool true → S 4 (resOf kpl21bC fun t => a.eval (.tmp t)) w → Q .normal a w) :
    (Code.region 21 opsKpl21b true).wp Try.prog Q a0 wp := by
  refine region_inv (by kernel_rfl) [194, 195, 196, 197, 198, 199, 200, 201, 202, 203, 204, 205, 206, 207, 208, 209, 210, 211, 212, 213, 214, 215, 216, 217, 218, 219, 220, 221, 222, 223, 224, 225, 226, 227, 228, 10] (by kernel_rfl) (by kernel_rfl) (fun t ht => by simp at ht; omega) (GV (kpl21bVals nx cx cy nb Ax Ay bs t u mb bb) kpl21bC S) (.start hS) ?_
    (fun L a w hf hall hG => fin a w hf (hG.val 31 35 10 _ rfl (hall 35 (by decide))) (hG.fin (fun c hc => by simp [kpl21bC] at hc; rcases hc with rfl | rfl | rfl | rfl <;> exact hall _ (by decide))))
  clear hS fin
  intro ix oo ho L a w hfr hG hLi hdep hcl K hK
  have e18 : a.tmps[18]?.getD undef = .slice Ax nx cx := by rw [← ev]; exact (hfr.same 18 (by decide)).trans in18
  have e20 : a.tmps[20]?.getD undef = .slice Ay nx cy := by rw [← ev]; exact (hfr.same 20 (by decide)).trans in20
  have e21 : a.tmps[21]?.getD undef = .bool true := by rw [← ev]; exact (hfr.same 21 (by decide)).trans in21
  have e22 : a.tmps[22]?.getD undef = .pointer (some ⟨t, 0, none⟩) := by rw [← ev]; exact (hfr.same 22 (by decide)).trans in22
  have e24 : a.tmps[24]?.getD undef = .pointer (some ⟨u, 0, none⟩) := by rw [← ev]; exact (hfr.same 24 (by decide)).trans in24
  have e25 : a.tmps[25]?.getD undef = .bool true := by rw [← ev]; exact (hfr.same 25 (by decide)).trans in25
  clear in18 in20 in21 in22 in24 in25
  match ix, ho with
  | 0, ho =>
    simp only [opsKpl21b, List.getElem?_toArray, List.getElem?_cons_zero, Option.some.injEq] at ho
    subst ho
    rw [if_pos (show Region.wanted _ _ = true from rfl)]
    have hfin := hK (.bool true) w (hG.quiet 0 0 194 _ rfl (by kernel_rfl) (by kernel_rfl))
    have HK := Lib.hid hfin
    clear hG hcl hdep hfr hK hfin hLi 
    go_simp
    exact HK.out
  | 1, ho =>
    simp only [opsKpl21b, List.getElem?_toArray, List.getElem?_cons_succ, List.getElem?_cons_zero, Option.some.injEq] at ho
    subst ho
    have x194 : a.tmps[194]?.getD undef = .bool true := by rw [← ev]; exact hG.val 0 0 194 _ rfl (hdep ⟨0, .data⟩ (by simp) rfl)
    rw [if_pos (show Region.wanted _ _ = true from rfl)]
    have hfin := hK (.bool false) w (hG.quiet 1 1 195 _ rfl (by kernel_rfl) (by kernel_rfl))
    have HK := Lib.hid hfin
    clear hG hcl hdep hfr hK hfin hLi 
    go_simp
    exact HK.out
  | 2, ho =>
    simp only [opsKpl21b, List.getElem?_toArray, List.getElem?_cons_succ, List.getElem?_cons_zero, Option.some.injEq] at ho
    subst ho
    have x195 : a.tmps[195]?.getD undef = .bool false := by rw [← ev]; exact hG.val 1 1 195 _ rfl (hdep ⟨1, .data⟩ (by simp) rfl)
    rw [if_pos (show Region.wanted _ _ = true from rfl)]
    have hfin := hK (.bool false) w (hG.quiet 2 2 196 _ rfl (by kernel_rfl) (by kernel_rfl))
    have HK := Lib.hid hfin
    clear hG hcl hdep hfr hK hfin hLi 
    go_simp
    exact HK.out
  | 3, ho =>
    simp only [opsKpl21b, List.getElem?_toArray, List.getElem?_cons_succ, List.getElem?_cons_zero, Option.some.injEq] at ho
    subst ho
    have xg : a.tmps[196]?.getD undef = .bool false := by rw [← ev]; exact hG.val 2 2 196 _ rfl (hdep ⟨2, .guard⟩ (by simp) rfl)
    have hw := wanted_of (ops := opsKpl21b) (a := a) (o := { dst := some 197, op := Op.move (Operand.tmp 18), type := 31, pos := "law.go:106", after := #[{ on := 2, ground := Ground.guard }], guard := some (2, false) }) (g := 2) (s := 196) (b := false) (b' := false) rfl rfl xg
    replace hw := hw.trans (show (false == false) = true from rfl)
    rw [if_pos hw]
    clear hw xg
    have hfin := hK (.slice Ax nx cx) w (hG.quiet 3 3 197 _ rfl (by kernel_rfl) (by kernel_rfl))
    have HK := Lib.hid hfin
    clear hG hcl hdep hfr hK hfin hLi 
    go_simp
    exact HK.out
  | 4, ho =>
    simp only [opsKpl21b, List.getElem?_toArray, List.getElem?_cons_succ, List.getElem?_cons_zero, Option.some.injEq] at ho
    subst ho
    have x197 : a.tmps[197]?.getD undef = .slice Ax nx cx := by rw [← ev]; exact hG.val 3 3 197 _ rfl (hdep ⟨3, .data⟩ (by simp) rfl)
    have xg : a.tmps[196]?.getD undef = .bool false := by rw [← ev]; exact hG.val 2 2 196 _ rfl (hdep ⟨2, .chain⟩ (by simp) rfl)
    have hw := wanted_of (ops := opsKpl21b) (a := a) (o := { dst := some 198, op := Op.call { callee := Callee.value (Operand.func 16), args := #[Operand.tmp 197], argTypes := #[31] }, type := 27, pos := "law.go:106", after := #[{ on := 3, ground := Ground.data }, { on := 2, ground := Ground.chain }, { on := 2, ground := Ground.guard }], guard := some (2, false) }) (g := 2) (s := 196) (b := false) (b' := false) rfl rfl xg
    replace hw := hw.trans (show (false == false) = true from rfl)
    rw [if_pos hw]
    clear hw xg
    have hSj := hG.at 0 (4, 198) rfl hLi (fun c h0 hc => absurd h0 (by decide))
    have hfin := fun v w' hs => hK v w' (hG.call 0 (4, 198) rfl hLi (fun c h0 hc => absurd h0 (by decide)) (by kernel_rfl) v w' hs)
    have HK := Lib.hid hfin
    generalize (resOf kpl21bC fun t => a.eval (.tmp t)) = R at *
    clear hG hcl hdep hfr hK hfin hLi
    have hc := Lib.hid (hc0 _ _ hSj)
    clear hSj hcv hcw hc0 hc1 hc2 hc3
    go_simp
    go_at_call 16
    refine hc.out.mono ?_
    rintro e w' ⟨v, rfl, hs⟩
    exact HK.out v w' hs
  | 5, ho =>
    simp only [opsKpl21b, List.getElem?_toArray, List.getElem?_cons_succ, List.getElem?_cons_zero, Option.some.injEq] at ho
    subst ho
    have xg : a.tmps[196]?.getD undef = .bool false := by rw [← ev]; exact hG.val 2 2 196 _ rfl (hdep ⟨2, .guard⟩ (by simp) rfl)
    have hw := wanted_of (ops := opsKpl21b) (a := a) (o := { dst := some 199, op := Op.convert 27 9 (Operand.tmp 198), type := 9, pos := "law.go:106", after := #[{ on := 4, ground := Ground.data }, { on := 2, ground := Ground.guard }], guard := some (2, false) }) (g := 2) (s := 196) (b := false) (b' := false) rfl rfl xg
    replace hw := hw.trans (show (false == false) = true from rfl)
    rw [if_pos hw]
    clear hw xg
    obtain ⟨ph, hSp, hdone⟩ := hG.any
    have hd198 : 0 < ph := hdone 0 (4, 198) rfl (hdep ⟨4, .data⟩ (by simp) rfl)
    have r198 : a.tmps[198]?.getD undef = resOf kpl21bC (fun t => a.eval (.tmp t)) 0 := by rw [← ev]; exact (resOf_at (C := kpl21bC) (j := 0) rfl a).symm
    have hfin := hK (.string bs) w (hG.quiet 4 5 199 _ rfl (by kernel_rfl) (by kernel_rfl))
    have HK := Lib.hid hfin
    generalize (resOf kpl21bC fun t => a.eval (.tmp t)) = R at *
    obtain ⟨A2, c2, q1, q2⟩ := hcv _ _ _ hSp 0 hd198 (by decide)
    rw [q1] at r198
    clear hcv hcw hc0 hc1 hc2 hc3 q1 hd198
    clear hSp hdone
    clear hG hcl hdep hfr hK hfin hLi 
    go_simp
    exact HK.out
  | 6, ho =>
    simp only [opsKpl21b, List.getElem?_toArray, List.getElem?_cons_succ, List.getElem?_cons_zero, Option.some.injEq] at ho
    subst ho
    have xg : a.tmps[196]?.getD undef = .bool false := by rw [← ev]; exact hG.val 2 2 196 _ rfl (hdep ⟨2, .guard⟩ (by simp) rfl)
    have hw := wanted_of (ops := opsKpl21b) (a := a) (o := { dst := some 200, op := Op.move (Operand.tmp 20), type := 47, pos := "law.go:106", after := #[{ on := 2, ground := Ground.guard }], guard := some (2, false) }) (g := 2) (s := 196) (b := false) (b' := false) rfl rfl xg
    replace hw := hw.trans (show (false == false) = true from rfl)
    rw [if_pos hw]
    clear hw xg
    have hfin := hK (.slice Ay nx cy) w (hG.quiet 5 6 200 _ rfl (by kernel_rfl) (by kernel_rfl))
    have HK := Lib.hid hfin
    clear hG hcl hdep hfr hK hfin hLi 
    go_simp
    exact HK.out
  | 7, ho =>
    simp only [opsKpl21b, List.getElem?_toArray, List.getElem?_cons_succ, List.getElem?_cons_zero, Option.some.injEq] at ho
    subst ho
    have x200 : a.tmps[200]?.getD undef = .slice Ay nx cy := by rw [← ev]; exact hG.val 5 6 200 _ rfl (hdep ⟨6, .data⟩ (by simp) rfl)
    have xg : a.tmps[196]?.getD undef = .bool false := by rw [← ev]; exact hG.val 2 2 196 _ rfl (hdep ⟨2, .guard⟩ (by simp) rfl)
    have hw := wanted_of (ops := opsKpl21b) (a := a) (o := { dst := some 201, op := Op.call { callee := Callee.value (Operand.func 20), args := #[Operand.tmp 200], argTypes := #[47] }, type := 27, pos := "law.go:106", after := #[{ on := 6, ground := Ground.data }, { on := 4, ground := Ground.chain }, { on := 2, ground := Ground.guard }], guard := some (2, false) }) (g := 2) (s := 196) (b := false) (b' := false) rfl rfl xg
    replace hw := hw.trans (show (false == false) = true from rfl)
    rw [if_pos hw]
    clear hw xg
    have hSj := hG.at 1 (7, 201) rfl hLi (fun c h0 hc => by simp [kpl21bC] at hc; subst hc; exact hdep ⟨4, .chain⟩ (by simp) rfl)
    have hfin := fun v w' hs => hK v w' (hG.call 1 (7, 201) rfl hLi (fun c h0 hc => by simp [kpl21bC] at hc; subst hc; exact hdep ⟨4, .chain⟩ (by simp) rfl) (by kernel_rfl) v w' hs)
    have HK := Lib.hid hfin
    generalize (resOf kpl21bC fun t => a.eval (.tmp t)) = R at *
    clear hG hcl hdep hfr hK hfin hLi
    have hc := Lib.hid (hc1 _ _ hSj)
    clear hSj hcv hcw hc0 hc1 hc2 hc3
    go_simp
    go_at_call 20
    refine hc.out.mono ?_
    rintro e w' ⟨v, rfl, hs⟩
    exact HK.out v w' hs
  | 8, ho =>
    simp only [opsKpl21b, List.getElem?_toArray, List.getElem?_cons_succ, List.getElem?_cons_zero, Option.some.injEq] at ho
    subst ho
    have xg : a.tmps[196]?.getD undef = .bool false := by rw [← ev]; exact hG.val 2 2 196 _ rfl (hdep ⟨2, .guard⟩ (by simp) rfl)
    have hw := wanted_of (ops := opsKpl21b) (a := a) (o := { dst := some 202, op := Op.convert 27 9 (Operand.tmp 201), type := 9, pos := "law.go:106", after := #[{ on := 7, ground := Ground.data }, { on := 2, ground := Ground.guard }], guard := some (2, false) }) (g := 2) (s := 196) (b := false) (b' := false) rfl rfl xg
    replace hw := hw.trans (show (false == false) = true from rfl)
    rw [if_pos hw]
    clear hw xg
    obtain ⟨ph, hSp, hdone⟩ := hG.any
    have hd201 : 1 < ph := hdone 1 (7, 201) rfl (hdep ⟨7, .data⟩ (by simp) rfl)
    have r201 : a.tmps[201]?.getD undef = resOf kpl21bC (fun t => a.eval (.tmp t)) 1 := by rw [← ev]; exact (resOf_at (C := kpl21bC) (j := 1) rfl a).symm
    have hfin := hK (.string bs) w (hG.quiet 6 8 202 _ rfl (by kernel_rfl) (by kernel_rfl))
    have HK := Lib.hid hfin
    generalize (resOf kpl21bC fun t => a.eval (.tmp t)) = R at *
    obtain ⟨A2, c2, q1, q2⟩ := hcv _ _ _ hSp 1 hd201 (by decide)
    rw [q1] at r201
    clear hcv hcw hc0 hc1 hc2 hc3 q1 hd201
    clear hSp hdone
    clear hG hcl hdep hfr hK hfin hLi 
    go_simp
    exact HK.out
  | 9, ho =>
    simp only [opsKpl21b, List.getElem?_toArray, List.getElem?_cons_succ, List.getElem?_cons_zero, Option.some.injEq] at ho
    subst ho
    have x199 : a.tmps[199]?.getD undef = .string bs := by rw [← ev]; exact hG.val 4 5 199 _ rfl (hdep ⟨5, .data⟩ (by simp) rfl)
    have x202 : a.tmps[202]?.getD undef = .string bs := by rw [← ev]; exact hG.val 6 8 202 _ rfl (hdep ⟨8, .data⟩ (by simp) rfl)
    have xg : a.tmps[196]?.getD undef = .bool false := by rw [← ev]; exact hG.val 2 2 196 _ rfl (hdep ⟨2, .guard⟩ (by simp) rfl)
    have hw := wanted_of (ops := opsKpl21b) (a := a) (o := { dst := some 203, op := Op.binOp BinOp.eql 9 (Operand.tmp 199) (Operand.tmp 202) 9, type := 4, pos := "law.go:106", after := #[{ on := 5, ground := Ground.data }, { on := 8, ground := Ground.data }, { on := 2, ground := Ground.guard }], guard := some (2, false) }) (g := 2) (s := 196) (b := false) (b' := false) rfl rfl xg
    replace hw := hw.trans (show (false == false) = true from rfl)
    rw [if_pos hw]
    clear hw xg
    have hfin := hK (.bool true) w (hG.quiet 7 9 203 _ rfl (by kernel_rfl) (by kernel_rfl))
    have HK := Lib.hid hfin
    clear hG hcl hdep hfr hK hfin hLi 
    go_simp
    exact HK.out
  | 10, ho =>
    simp only [opsKpl21b, List.getElem?_toArray, List.getElem?_cons_succ, List.getElem?_cons_zero, Option.some.injEq] at ho
    subst ho
    have x203 : a.tmps[203]?.getD undef = .bool true := by rw [← ev]; exact hG.val 7 9 203 _ rfl (hdep ⟨9, .data⟩ (by simp) rfl)
    have xg : a.tmps[196]?.getD undef = .bool false := by rw [← ev]; exact hG.val 2 2 196 _ rfl (hdep ⟨2, .guard⟩ (by simp) rfl)
    have hw := wanted_of (ops := opsKpl21b) (a := a) (o := { dst := some 204, op := Op.move (Operand.tmp 203), type := 4, pos := "law.go:106", after := #[{ on := 9, ground := Ground.data }, { on := 7, ground := Ground.chain }, { on := 2, ground := Ground.guard }], guard := some (2, false) }) (g := 2) (s := 196) (b := false) (b' := false) rfl rfl xg
    replace hw := hw.trans (show (false == false) = true from rfl)
    rw [if_pos hw]
    clear hw xg
    have hfin := hK (.bool true) w (hG.quiet 8 10 204 _ rfl (by kernel_rfl) (by kernel_rfl))
    have HK := Lib.hid hfin
    clear hG hcl hdep hfr hK hfin hLi 
    go_simp
    exact HK.out
  | 11, ho =>
    simp only [opsKpl21b, List.getElem?_toArray, List.getElem?_cons_succ, List.getElem?_cons_zero, Option.some.injEq] at ho
    subst ho
    have xg : a.tmps[204]?.getD undef = .bool true := by rw [← ev]; exact hG.val 8 10 204 _ rfl (hdep ⟨10, .guard⟩ (by simp) rfl)
    have hw := wanted_of (ops := opsKpl21b) (a := a) (o := { dst := some 205, op := Op.move (Operand.tmp 18), type := 31, pos := "law.go:106", after := #[{ on := 10, ground := Ground.guard }], guard := some (10, true) }) (g := 10) (s := 204) (b := true) (b' := true) rfl rfl xg
    replace hw := hw.trans (show (true == true) = true from rfl)
    rw [if_pos hw]
    clear hw xg
    have hfin := hK (.slice Ax nx cx) w (hG.quiet 9 11 205 _ rfl (by kernel_rfl) (by kernel_rfl))
    have HK := Lib.hid hfin
    clear hG hcl hdep hfr hK hfin hLi 
    go_simp
    exact HK.out
  | 12, ho =>
    simp only [opsKpl21b, List.getElem?_toArray, List.getElem?_cons_succ, List.getElem?_cons_zero, Option.some.injEq] at ho
    subst ho
    have x205 : a.tmps[205]?.getD undef = .slice Ax nx cx := by rw [← ev]; exact hG.val 9 11 205 _ rfl (hdep ⟨11, .data⟩ (by simp) rfl)
    have xg : a.tmps[204]?.getD undef = .bool true := by rw [← ev]; exact hG.val 8 10 204 _ rfl (hdep ⟨10, .guard⟩ (by simp) rfl)
    have hw := wanted_of (ops := opsKpl21b) (a := a) (o := { dst := some 206, op := Op.call { callee := Callee.builtin Builtin.len, args := #[Operand.tmp 205], argTypes := #[31] }, type := 3, pos := "law.go:106", after := #[{ on := 11, ground := Ground.data }, { on := 10, ground := Ground.guard }], guard := some (10, true) }) (g := 10) (s := 204) (b := true) (b' := true) rfl rfl xg
    replace hw := hw.trans (show (true == true) = true from rfl)
    rw [if_pos hw]
    clear hw xg
    have hfin := hK (.int .i64 (nx : Int)) w (hG.quiet 10 12 206 _ rfl (by kernel_rfl) (by kernel_rfl))
    have HK := Lib.hid hfin
    clear hG hcl hdep hfr hK hfin hLi 
    go_simp
    exact HK.out
  | 13, ho =>
    simp only [opsKpl21b, List.getElem?_toArray, List.getElem?_cons_succ, List.getElem?_cons_zero, Option.some.injEq] at ho
    subst ho
    have xg : a.tmps[204]?.getD undef = .bool true := by rw [← ev]; exact hG.val 8 10 204 _ rfl (hdep ⟨10, .guard⟩ (by simp) rfl)
    have hw := wanted_of (ops := opsKpl21b) (a := a) (o := { dst := some 207, op := Op.move (Operand.tmp 20), type := 47, pos := "law.go:106", after := #[{ on := 10, ground := Ground.guard }], guard := some (10, true) }) (g := 10) (s := 204) (b := true) (b' := true) rfl rfl xg
    replace hw := hw.trans (show (true == true) = true from rfl)
    rw [if_pos hw]
    clear hw xg
    have hfin := hK (.slice Ay nx cy) w (hG.quiet 11 13 207 _ rfl (by kernel_rfl) (by kernel_rfl))
    have HK := Lib.hid hfin
    clear hG hcl hdep hfr hK hfin hLi 
    go_simp
    exact HK.out
  | 14, ho =>
    simp only [opsKpl21b, List.getElem?_toArray, List.getElem?_cons_succ, List.getElem?_cons_zero, Option.some.injEq] at ho
    subst ho
    have x207 : a.tmps[207]?.getD undef = .slice Ay nx cy := by rw [← ev]; exact hG.val 11 13 207 _ rfl (hdep ⟨13, .data⟩ (by simp) rfl)
    have xg : a.tmps[204]?.getD undef = .bool true := by rw [← ev]; exact hG.val 8 10 204 _ rfl (hdep ⟨10, .guard⟩ (by simp) rfl)
    have hw := wanted_of (ops := opsKpl21b) (a := a) (o := { dst := some 208, op := Op.call { callee := Callee.builtin Builtin.len, args := #[Operand.tmp 207], argTypes := #[47] }, type := 3, pos := "law.go:106", after := #[{ on := 13, ground := Ground.data }, { on := 10, ground := Ground.guard }], guard := some (10, true) }) (g := 10) (s := 204) (b := true) (b' := true) rfl rfl xg
    replace hw := hw.trans (show (true == true) = true from rfl)
    rw [if_pos hw]
    clear hw xg
    have hfin := hK (.int .i64 (nx : Int)) w (hG.quiet 12 14 208 _ rfl (by kernel_rfl) (by kernel_rfl))
    have HK := Lib.hid hfin
    clear hG hcl hdep hfr hK hfin hLi 
    go_simp
    exact HK.out
  | 15, ho =>
    simp only [opsKpl21b, List.getElem?_toArray, List.getElem?_cons_succ, List.getElem?_cons_zero, Option.some.injEq] at ho
    subst ho
    have x206 : a.tmps[206]?.getD undef = .int .i64 (nx : Int) := by rw [← ev]; exact hG.val 10 12 206 _ rfl (hdep ⟨12, .data⟩ (by simp) rfl)
    have x208 : a.tmps[208]?.getD undef = .int .i64 (nx : Int) := by rw [← ev]; exact hG.val 12 14 208 _ rfl (hdep ⟨14, .data⟩ (by simp) rfl)
    have xg : a.tmps[204]?.getD undef = .bool true := by rw [← ev]; exact hG.val 8 10 204 _ rfl (hdep ⟨10, .guard⟩ (by simp) rfl)
    have hw := wanted_of (ops := opsKpl21b) (a := a) (o := { dst := some 209, op := Op.binOp BinOp.eql 3 (Operand.tmp 206) (Operand.tmp 208) 3, type := 4, pos := "law.go:106", after := #[{ on := 12, ground := Ground.data }, { on := 14, ground := Ground.data }, { on := 10, ground := Ground.guard }], guard := some (10, true) }) (g := 10) (s := 204) (b := true) (b' := true) rfl rfl xg
    replace hw := hw.trans (show (true == true) = true from rfl)
    rw [if_pos hw]
    clear hw xg
    have hfin := hK (.bool true) w (hG.quiet 13 15 209 _ rfl (by kernel_rfl) (by kernel_rfl))
    have HK := Lib.hid hfin
    clear hG hcl hdep hfr hK hfin hLi 
    go_simp
    exact HK.out
  | 16, ho =>
    simp only [opsKpl21b, List.getElem?_toArray, List.getElem?_cons_succ, List.getElem?_cons_zero, Option.some.injEq] at ho
    subst ho
    have x204 : a.tmps[204]?.getD undef = .bool true := by rw [← ev]; exact hG.val 8 10 204 _ rfl (hdep ⟨10, .data⟩ (by simp) rfl)
    have x209 : a.tmps[209]?.getD undef = .bool true := by rw [← ev]; exact hG.val 13 15 209 _ rfl (hdep ⟨15, .data⟩ (by simp) rfl)
    have xg : a.tmps[196]?.getD undef = .bool false := by rw [← ev]; exact hG.val 2 2 196 _ rfl (hdep ⟨2, .guard⟩ (by simp) rfl)
    have hw := wanted_of (ops := opsKpl21b) (a := a) (o := { dst := some 210, op := Op.pick (Operand.tmp 204) (Operand.tmp 209) (Operand.const (Value.bool false)), type := 4, pos := "law.go:106", after := #[{ on := 10, ground := Ground.data }, { on := 15, ground := Ground.data }, { on := 2, ground := Ground.guard }], guard := some (2, false) }) (g := 2) (s := 196) (b := false) (b' := false) rfl rfl xg
    replace hw := hw.trans (show (false == false) = true from rfl)
    rw [if_pos hw]
    clear hw xg
    have hfin := hK (.bool true) w (hG.quiet 14 16 210 _ rfl (by kernel_rfl) (by kernel_rfl))
    have HK := Lib.hid hfin
    clear hG hcl hdep hfr hK hfin hLi 
    go_simp
    exact HK.out
  | 17, ho =>
    simp only [opsKpl21b, List.getElem?_toArray, List.getElem?_cons_succ, List.getElem?_cons_zero, Option.some.injEq] at ho
    subst ho
    have x210 : a.tmps[210]?.getD undef = .bool true := by rw [← ev]; exact hG.val 14 16 210 _ rfl (hdep ⟨16, .data⟩ (by simp) rfl)
    have xg : a.tmps[196]?.getD undef = .bool false := by rw [← ev]; exact hG.val 2 2 196 _ rfl (hdep ⟨2, .guard⟩ (by simp) rfl)
    have hw := wanted_of (ops := opsKpl21b) (a := a) (o := { dst := some 211, op := Op.move (Operand.tmp 210), type := 4, pos := "law.go:106", after := #[{ on := 16, ground := Ground.data }, { on := 10, ground := Ground.chain }, { on := 2, ground := Ground.guard }], guard := some (2, false) }) (g := 2) (s := 196) (b := false) (b' := false) rfl rfl xg
    replace hw := hw.trans (show (false == false) = true from rfl)
    rw [if_pos hw]
    clear hw xg
    have hfin := hK (.bool true) w (hG.quiet 15 17 211 _ rfl (by kernel_rfl) (by kernel_rfl))
    have HK := Lib.hid hfin
    clear hG hcl hdep hfr hK hfin hLi 
    go_simp
    exact HK.out
  | 18, ho =>
    simp only [opsKpl21b, List.getElem?_toArray, List.getElem?_cons_succ, List.getElem?_cons_zero, Option.some.injEq] at ho
    subst ho
    have xg : a.tmps[211]?.getD undef = .bool true := by rw [← ev]; exact hG.val 15 17 211 _ rfl (hdep ⟨17, .guard⟩ (by simp) rfl)
    have hw := wanted_of (ops := opsKpl21b) (a := a) (o := { dst := some 212, op := Op.move (Operand.tmp 25), type := 4, pos := "law.go:106", after := #[{ on := 17, ground := Ground.guard }], guard := some (17, true) }) (g := 17) (s := 211) (b := true) (b' := true) rfl rfl xg
    replace hw := hw.trans (show (true == true) = true from rfl)
    rw [if_pos hw]
    clear hw xg
    have hfin := hK (.bool true) w (hG.quiet 16 18 212 _ rfl (by kernel_rfl) (by kernel_rfl))
    have HK := Lib.hid hfin
    clear hG hcl hdep hfr hK hfin hLi 
    go_simp
    exact HK.out
  | 19, ho =>
    simp only [opsKpl21b, List.getElem?_toArray, List.getElem?_cons_succ, List.getElem?_cons_zero, Option.some.injEq] at ho
    subst ho
    have x212 : a.tmps[212]?.getD undef = .bool true := by rw [← ev]; exact hG.val 16 18 212 _ rfl (hdep ⟨18, .data⟩ (by simp) rfl)
    have xg : a.tmps[211]?.getD undef = .bool true := by rw [← ev]; exact hG.val 15 17 211 _ rfl (hdep ⟨17, .guard⟩ (by simp) rfl)
    have hw := wanted_of (ops := opsKpl21b) (a := a) (o := { dst := some 213, op := Op.unOp UnOp.not 4 (Operand.tmp 212), type := 4, pos := "law.go:106", after := #[{ on := 18, ground := Ground.data }, { on := 17, ground := Ground.guard }], guard := some (17, true) }) (g := 17) (s := 211) (b := true) (b' := true) rfl rfl xg
    replace hw := hw.trans (show (true == true) = true from rfl)
    rw [if_pos hw]
    clear hw xg
    have hfin := hK (.bool false) w (hG.quiet 17 19 213 _ rfl (by kernel_rfl) (by kernel_rfl))
    have HK := Lib.hid hfin
    clear hG hcl hdep hfr hK hfin hLi 
    go_simp
    exact HK.out
  | 20, ho =>
    simp only [opsKpl21b, List.getElem?_toArray, List.getElem?_cons_succ, List.getElem?_cons_zero, Option.some.injEq] at ho
    subst ho
    have x213 : a.tmps[213]?.getD undef = .bool false := by rw [← ev]; exact hG.val 17 19 213 _ rfl (hdep ⟨19, .data⟩ (by simp) rfl)
    have xg : a.tmps[211]?.getD undef = .bool true := by rw [← ev]; exact hG.val 15 17 211 _ rfl (hdep ⟨17, .chain⟩ (by simp) rfl)
    have hw := wanted_of (ops := opsKpl21b) (a := a) (o := { dst := some 214, op := Op.move (Operand.tmp 213), type := 4, pos := "law.go:106", after := #[{ on := 19, ground := Ground.data }, { on := 17, ground := Ground.chain }, { on := 17, ground := Ground.guard }], guard := some (17, true) }) (g := 17) (s := 211) (b := true) (b' := true) rfl rfl xg
    replace hw := hw.trans (show (true == true) = true from rfl)
    rw [if_pos hw]
    clear hw xg
    have hfin := hK (.bool false) w (hG.quiet 18 20 214 _ rfl (by kernel_rfl) (by kernel_rfl))
    have HK := Lib.hid hfin
    clear hG hcl hdep hfr hK hfin hLi 
    go_simp
    exact HK.out
  | 21, ho =>
    simp only [opsKpl21b, List.getElem?_toArray, List.getElem?_cons_succ, List.getElem?_cons_zero, Option.some.injEq] at ho
    subst ho
    have xg : a.tmps[214]?.getD undef = .bool false := by rw [← ev]; exact hG.val 18 20 214 _ rfl (hdep ⟨20, .guard⟩ (by simp) rfl)
    have hw := wanted_of (ops := opsKpl21b) (a := a) (o := { dst := some 215, op := Op.move (Operand.tmp 22), type := 23, pos := "law.go:106", after := #[{ on := 20, ground := Ground.guard }], guard := some (20, false) }) (g := 20) (s := 214) (b := false) (b' := false) rfl rfl xg
    replace hw := hw.trans (show (false == false) = true from rfl)
    rw [if_pos hw]
    clear hw xg
    have hfin := hK (.pointer (some ⟨t, 0, none⟩)) w (hG.quiet 19 21 215 _ rfl (by kernel_rfl) (by kernel_rfl))
    have HK := Lib.hid hfin
    clear hG hcl hdep hfr hK hfin hLi 
    go_simp
    exact HK.out
  | 22, ho =>
    simp only [opsKpl21b, List.getElem?_toArray, List.getElem?_cons_succ, List.getElem?_cons_zero, Option.some.injEq] at ho
    subst ho
    have x215 : a.tmps[215]?.getD undef = .pointer (some ⟨t, 0, none⟩) := by rw [← ev]; exact hG.val 19 21 215 _ rfl (hdep ⟨21, .data⟩ (by simp) rfl)
    have xg : a.tmps[214]?.getD undef = .bool false := by rw [← ev]; exact hG.val 18 20 214 _ rfl (hdep ⟨20, .guard⟩ (by simp) rfl)
    have hw := wanted_of (ops := opsKpl21b) (a := a) (o := { dst := some 216, op := Op.binOp BinOp.neq 23 (Operand.tmp 215) (Operand.const (Value.pointer none)) 23, type := 4, pos := "law.go:106", after := #[{ on := 21, ground := Ground.data }, { on := 20, ground := Ground.guard }], guard := some (20, false) }) (g := 20) (s := 214) (b := false) (b' := false) rfl rfl xg
    replace hw := hw.trans (show (false == false) = true from rfl)
    rw [if_pos hw]
    clear hw xg
    have hfin := hK (.bool true) w (hG.quiet 20 22 216 _ rfl (by kernel_rfl) (by kernel_rfl))
    have HK := Lib.hid hfin
    clear hG hcl hdep hfr hK hfin hLi 
    go_simp
    exact HK.out
  | 23, ho =>
    simp only [opsKpl21b, List.getElem?_toArray, List.getElem?_cons_succ, List.getElem?_cons_zero, Option.some.injEq] at ho
    subst ho
    have x216 : a.tmps[216]?.getD undef = .bool true := by rw [← ev]; exact hG.val 20 22 216 _ rfl (hdep ⟨22, .data⟩ (by simp) rfl)
    have xg : a.tmps[214]?.getD undef = .bool false := by rw [← ev]; exact hG.val 18 20 214 _ rfl (hdep ⟨20, .chain⟩ (by simp) rfl)
    have hw := wanted_of (ops := opsKpl21b) (a := a) (o := { dst := some 217, op := Op.move (Operand.tmp 216), type := 4, pos := "law.go:106", after := #[{ on := 22, ground := Ground.data }, { on := 20, ground := Ground.chain }, { on := 20, ground := Ground.guard }], guard := some (20, false) }) (g := 20) (s := 214) (b := false) (b' := false) rfl rfl xg
    replace hw := hw.trans (show (false == false) = true from rfl)
    rw [if_pos hw]
    clear hw xg
    have hfin := hK (.bool true) w (hG.quiet 21 23 217 _ rfl (by kernel_rfl) (by kernel_rfl))
    have HK := Lib.hid hfin
    clear hG hcl hdep hfr hK hfin hLi 
    go_simp
    exact HK.out
  | 24, ho =>
    simp only [opsKpl21b, List.getElem?_toArray, List.getElem?_cons_succ, List.getElem?_cons_zero, Option.some.injEq] at ho
    subst ho
    have xg : a.tmps[217]?.getD undef = .bool true := by rw [← ev]; exact hG.val 21 23 217 _ rfl (hdep ⟨23, .guard⟩ (by simp) rfl)
    have hw := wanted_of (ops := opsKpl21b) (a := a) (o := { dst := some 218, op := Op.move (Operand.tmp 22), type := 23, pos := "law.go:106", after := #[{ on := 23, ground := Ground.guard }], guard := some (23, true) }) (g := 23) (s := 217) (b := true) (b' := true) rfl rfl xg
    replace hw := hw.trans (show (true == true) = true from rfl)
    rw [if_pos hw]
    clear hw xg
    have hfin := hK (.pointer (some ⟨t, 0, none⟩)) w (hG.quiet 22 24 218 _ rfl (by kernel_rfl) (by kernel_rfl))
    have HK := Lib.hid hfin
    clear hG hcl hdep hfr hK hfin hLi 
    go_simp
    exact HK.out
  | 25, ho =>
    simp only [opsKpl21b, List.getElem?_toArray, List.getElem?_cons_succ, List.getElem?_cons_zero, Option.some.injEq] at ho
    subst ho
    have x218 : a.tmps[218]?.getD undef = .pointer (some ⟨t, 0, none⟩) := by rw [← ev]; exact hG.val 22 24 218 _ rfl (hdep ⟨24, .data⟩ (by simp) rfl)
    have xg : a.tmps[217]?.getD undef = .bool true := by rw [← ev]; exact hG.val 21 23 217 _ rfl (hdep ⟨23, .chain⟩ (by simp) rfl)
    have hw := wanted_of (ops := opsKpl21b) (a := a) (o := { dst := some 219, op := Op.call { callee := Callee.value (Operand.func 14), args := #[Operand.tmp 218], argTypes := #[23] }, type := 27, pos := "law.go:106", after := #[{ on := 24, ground := Ground.data }, { on := 23, ground := Ground.chain }, { on := 23, ground := Ground.guard }], guard := some (23, true) }) (g := 23) (s := 217) (b := true) (b' := true) rfl rfl xg
    replace hw := hw.trans (show (true == true) = true from rfl)
    rw [if_pos hw]
    clear hw xg
    have hSj := hG.at 2 (25, 219) rfl hLi (fun c h0 hc => by simp [kpl21bC] at hc; subst hc; exact hcl 10 _ rfl (hcl 17 _ rfl (hcl 20 _ rfl (hcl 23 _ rfl (hdep ⟨23, .chain⟩ (by simp) rfl) ⟨20, .chain⟩ (by simp [opsKpl21b]) rfl) ⟨17, .chain⟩ (by simp [opsKpl21b]) rfl) ⟨10, .chain⟩ (by simp [opsKpl21b]) rfl) ⟨7, .chain⟩ (by simp [opsKpl21b]) rfl)
    have hfin := fun v w' hs => hK v w' (hG.call 2 (25, 219) rfl hLi (fun c h0 hc => by simp [kpl21bC] at hc; subst hc; exact hcl 10 _ rfl (hcl 17 _ rfl (hcl 20 _ rfl (hcl 23 _ rfl (hdep ⟨23, .chain⟩ (by simp) rfl) ⟨20, .chain⟩ (by simp [opsKpl21b]) rfl) ⟨17, .chain⟩ (by simp [opsKpl21b]) rfl) ⟨10, .chain⟩ (by simp [opsKpl21b]) rfl) ⟨7, .chain⟩ (by simp [opsKpl21b]) rfl) (by kernel_rfl) v w' hs)
    have HK := Lib.hid hfin
    generalize (resOf kpl21bC fun t => a.eval (.tmp t)) = R at *
    clear hG hcl hdep hfr hK hfin hLi
    have hc := Lib.hid (hc2 _ _ hSj)
    clear hSj hcv hcw hc0 hc1 hc2 hc3
    go_simp
    go_at_call 14
    refine hc.out.mono ?_
    rintro e w' ⟨v, rfl, hs⟩
    exact HK.out v w' hs
  | 26, ho =>
    simp only [opsKpl21b, List.getElem?_toArray, List.getElem?_cons_succ, List.getElem?_cons_zero, Option.some.injEq] at ho
    subst ho
    have xg : a.tmps[217]?.getD undef = .bool true := by rw [← ev]; exact hG.val 21 23 217 _ rfl (hdep ⟨23, .guard⟩ (by simp) rfl)
    have hw := wanted_of (ops := opsKpl21b) (a := a) (o := { dst := some 220, op := Op.convert 27 9 (Operand.tmp 219), type := 9, pos := "law.go:106", after := #[{ on := 25, ground := Ground.data }, { on := 23, ground := Ground.guard }], guard := some (23, true) }) (g := 23) (s := 217) (b := true) (b' := true) rfl rfl xg
    replace hw := hw.trans (show (true == true) = true from rfl)
    rw [if_pos hw]
    clear hw xg
    obtain ⟨ph, hSp, hdone⟩ := hG.any
    have hd219 : 2 < ph := hdone 2 (25, 219) rfl (hdep ⟨25, .data⟩ (by simp) rfl)
    have r219 : a.tmps[219]?.getD undef = resOf kpl21bC (fun t => a.eval (.tmp t)) 2 := by rw [← ev]; exact (resOf_at (C := kpl21bC) (j := 2) rfl a).symm
    have hfin := hK (.string bb) w (hG.quiet 23 26 220 _ rfl (by kernel_rfl) (by kernel_rfl))
    have HK := Lib.hid hfin
    generalize (resOf kpl21bC fun t => a.eval (.tmp t)) = R at *
    obtain ⟨A2, c2, q1, q2⟩ := hcw _ _ _ hSp 2 hd219 (by decide)
    rw [q1] at r219
    clear hcv hcw hc0 hc1 hc2 hc3 q1 hd219
    clear hSp hdone
    clear hG hcl hdep hfr hK hfin hLi 
    go_simp
    exact HK.out
  | 27, ho =>
    simp only [opsKpl21b, List.getElem?_toArray, List.getElem?_cons_succ, List.getElem?_cons_zero, Option.some.injEq] at ho
    subst ho
    have xg : a.tmps[217]?.getD undef = .bool true := by rw [← ev]; exact hG.val 21 23 217 _ rfl (hdep ⟨23, .guard⟩ (by simp) rfl)
    have hw := wanted_of (ops := opsKpl21b) (a := a) (o := { dst := some 221, op := Op.move (Operand.tmp 24), type := 42, pos := "law.go:106", after := #[{ on := 23, ground := Ground.guard }], guard := some (23, true) }) (g := 23) (s := 217) (b := true) (b' := true) rfl rfl xg
    replace hw := hw.trans (show (true == true) = true from rfl)
    rw [if_pos hw]
    clear hw xg
    have hfin := hK (.pointer (some ⟨u, 0, none⟩)) w (hG.quiet 24 27 221 _ rfl (by kernel_rfl) (by kernel_rfl))
    have HK := Lib.hid hfin
    clear hG hcl hdep hfr hK hfin hLi 
    go_simp
    exact HK.out
  | 28, ho =>
    simp only [opsKpl21b, List.getElem?_toArray, List.getElem?_cons_succ, List.getElem?_cons_zero, Option.some.injEq] at ho
    subst ho
    have x221 : a.tmps[221]?.getD undef = .pointer (some ⟨u, 0, none⟩) := by rw [← ev]; exact hG.val 24 27 221 _ rfl (hdep ⟨27, .data⟩ (by simp) rfl)
    have xg : a.tmps[217]?.getD undef = .bool true := by rw [← ev]; exact hG.val 21 23 217 _ rfl (hdep ⟨23, .guard⟩ (by simp) rfl)
    have hw := wanted_of (ops := opsKpl21b) (a := a) (o := { dst := some 222, op := Op.call { callee := Callee.value (Operand.func 25), args := #[Operand.tmp 221], argTypes := #[42] }, type := 27, pos := "law.go:106", after := #[{ on := 27, ground := Ground.data }, { on := 25, ground := Ground.chain }, { on := 23, ground := Ground.guard }], guard := some (23, true) }) (g := 23) (s := 217) (b := true) (b' := true) rfl rfl xg
    replace hw := hw.trans (show (true == true) = true from rfl)
    rw [if_pos hw]
    clear hw xg
    have hSj := hG.at 3 (28, 222) rfl hLi (fun c h0 hc => by simp [kpl21bC] at hc; subst hc; exact hdep ⟨25, .chain⟩ (by simp) rfl)
    have hfin := fun v w' hs => hK v w' (hG.call 3 (28, 222) rfl hLi (fun c h0 hc => by simp [kpl21bC] at hc; subst hc; exact hdep ⟨25, .chain⟩ (by simp) rfl) (by kernel_rfl) v w' hs)
    have HK := Lib.hid hfin
    generalize (resOf kpl21bC fun t => a.eval (.tmp t)) = R at *
    clear hG hcl hdep hfr hK hfin hLi
    have hc := Lib.hid (hc3 _ _ hSj)
    clear hSj hcv hcw hc0 hc1 hc2 hc3
    go_simp
    go_at_call 25
    refine hc.out.mono ?_
    rintro e w' ⟨v, rfl, hs⟩
    exact HK.out v w' hs
  | 29, ho =>
    simp only [opsKpl21b, List.getElem?_toArray, List.getElem?_cons_succ, List.getElem?_cons_zero, Option.some.injEq] at ho
    subst ho
    have xg : a.tmps[217]?.getD undef = .bool true := by rw [← ev]; exact hG.val 21 23 217 _ rfl (hdep ⟨23, .guard⟩ (by simp) rfl)
    have hw := wanted_of (ops := opsKpl21b) (a := a) (o := { dst := some 223, op := Op.convert 27 9 (Operand.tmp 222), type := 9, pos := "law.go:106", after := #[{ on := 28, ground := Ground.data }, { on := 23, ground := Ground.guard }], guard := some (23, true) }) (g := 23) (s := 217) (b := true) (b' := true) rfl rfl xg
    replace hw := hw.trans (show (true == true) = true from rfl)
    rw [if_pos hw]
    clear hw xg
    obtain ⟨ph, hSp, hdone⟩ := hG.any
    have hd222 : 3 < ph := hdone 3 (28, 222) rfl (hdep ⟨28, .data⟩ (by simp) rfl)
    have r222 : a.tmps[222]?.getD undef = resOf kpl21bC (fun t => a.eval (.tmp t)) 3 := by rw [← ev]; exact (resOf_at (C := kpl21bC) (j := 3) rfl a).symm
    have hfin := hK (.string bb) w (hG.quiet 25 29 223 _ rfl (by kernel_rfl) (by kernel_rfl))
    have HK := Lib.hid hfin
    generalize (resOf kpl21bC fun t => a.eval (.tmp t)) = R at *
    obtain ⟨A2, c2, q1, q2⟩ := hcw _ _ _ hSp 3 hd222 (by decide)
    rw [q1] at r222
    clear hcv hcw hc0 hc1 hc2 hc3 q1 hd222
    clear hSp hdone
    clear hG hcl hdep hfr hK hfin hLi 
    go_simp
    exact HK.out
  | 30, ho =>
    simp only [opsKpl21b, List.getElem?_toArray, List.getElem?_cons_succ, List.getElem?_cons_zero, Option.some.injEq] at ho
    subst ho
    have x220 : a.tmps[220]?.getD undef = .string bb := by rw [← ev]; exact hG.val 23 26 220 _ rfl (hdep ⟨26, .data⟩ (by simp) rfl)
    have x223 : a.tmps[223]?.getD undef = .string bb := by rw [← ev]; exact hG.val 25 29 223 _ rfl (hdep ⟨29, .data⟩ (by simp) rfl)
    have xg : a.tmps[217]?.getD undef = .bool true := by rw [← ev]; exact hG.val 21 23 217 _ rfl (hdep ⟨23, .guard⟩ (by simp) rfl)
    have hw := wanted_of (ops := opsKpl21b) (a := a) (o := { dst := some 224, op := Op.binOp BinOp.eql 9 (Operand.tmp 220) (Operand.tmp 223) 9, type := 4, pos := "law.go:106", after := #[{ on := 26, ground := Ground.data }, { on := 29, ground := Ground.data }, { on := 23, ground := Ground.guard }], guard := some (23, true) }) (g := 23) (s := 217) (b := true) (b' := true) rfl rfl xg
    replace hw := hw.trans (show (true == true) = true from rfl)
    rw [if_pos hw]
    clear hw xg
    have hfin := hK (.bool true) w (hG.quiet 26 30 224 _ rfl (by kernel_rfl) (by kernel_rfl))
    have HK := Lib.hid hfin
    clear hG hcl hdep hfr hK hfin hLi 
    go_simp
    exact HK.out
  | 31, ho =>
    simp only [opsKpl21b, List.getElem?_toArray, List.getElem?_cons_succ, List.getElem?_cons_zero, Option.some.injEq] at ho
    subst ho
    have x217 : a.tmps[217]?.getD undef = .bool true := by rw [← ev]; exact hG.val 21 23 217 _ rfl (hdep ⟨23, .data⟩ (by simp) rfl)
    have x224 : a.tmps[224]?.getD undef = .bool true := by rw [← ev]; exact hG.val 26 30 224 _ rfl (hdep ⟨30, .data⟩ (by simp) rfl)
    have xg : a.tmps[214]?.getD undef = .bool false := by rw [← ev]; exact hG.val 18 20 214 _ rfl (hdep ⟨20, .guard⟩ (by simp) rfl)
    have hw := wanted_of (ops := opsKpl21b) (a := a) (o := { dst := some 225, op := Op.pick (Operand.tmp 217) (Operand.tmp 224) (Operand.const (Value.bool false)), type := 4, pos := "law.go:106", after := #[{ on := 23, ground := Ground.data }, { on := 30, ground := Ground.data }, { on := 20, ground := Ground.guard }], guard := some (20, false) }) (g := 20) (s := 214) (b := false) (b' := false) rfl rfl xg
    replace hw := hw.trans (show (false == false) = true from rfl)
    rw [if_pos hw]
    clear hw xg
    have hfin := hK (.bool true) w (hG.quiet 27 31 225 _ rfl (by kernel_rfl) (by kernel_rfl))
    have HK := Lib.hid hfin
    clear hG hcl hdep hfr hK hfin hLi 
    go_simp
    exact HK.out
  | 32, ho =>
    simp only [opsKpl21b, List.getElem?_toArray, List.getElem?_cons_succ, List.getElem?_cons_zero, Option.some.injEq] at ho
    subst ho
    have x214 : a.tmps[214]?.getD undef = .bool false := by rw [← ev]; exact hG.val 18 20 214 _ rfl (hdep ⟨20, .data⟩ (by simp) rfl)
    have x225 : a.tmps[225]?.getD undef = .bool true := by rw [← ev]; exact hG.val 27 31 225 _ rfl (hdep ⟨31, .data⟩ (by simp) rfl)
    have xg : a.tmps[211]?.getD undef = .bool true := by rw [← ev]; exact hG.val 15 17 211 _ rfl (hdep ⟨17, .guard⟩ (by simp) rfl)
    have hw := wanted_of (ops := opsKpl21b) (a := a) (o := { dst := some 226, op := Op.pick (Operand.tmp 214) (Operand.const (Value.bool true)) (Operand.tmp 225), type := 4, pos := "law.go:106", after := #[{ on := 20, ground := Ground.data }, { on := 31, ground := Ground.data }, { on := 17, ground := Ground.guard }], guard := some (17, true) }) (g := 17) (s := 211) (b := true) (b' := true) rfl rfl xg
    replace hw := hw.trans (show (true == true) = true from rfl)
    rw [if_pos hw]
    clear hw xg
    have hfin := hK (.bool true) w (hG.quiet 28 32 226 _ rfl (by kernel_rfl) (by kernel_rfl))
    have HK := Lib.hid hfin
    clear hG hcl hdep hfr hK hfin hLi 
    go_simp
    exact HK.out
  | 33, ho =>
    simp only [opsKpl21b, List.getElem?_toArray, List.getElem?_cons_succ, List.getElem?_cons_zero, Option.some.injEq] at ho
    subst ho
    have x211 : a.tmps[211]?.getD undef = .bool true := by rw [← ev]; exact hG.val 15 17 211 _ rfl (hdep ⟨17, .data⟩ (by simp) rfl)
    have x226 : a.tmps[226]?.getD undef = .bool true := by rw [← ev]; exact hG.val 28 32 226 _ rfl (hdep ⟨32, .data⟩ (by simp) rfl)
    have xg : a.tmps[196]?.getD undef = .bool false := by rw [← ev]; exact hG.val 2 2 196 _ rfl (hdep ⟨2, .guard⟩ (by simp) rfl)
    have hw := wanted_of (ops := opsKpl21b) (a := a) (o := { dst := some 227, op := Op.pick (Operand.tmp 211) (Operand.tmp 226) (Operand.const (Value.bool false)), type := 4, pos := "law.go:106", after := #[{ on := 17, ground := Ground.data }, { on := 32, ground := Ground.data }, { on := 2, ground := Ground.guard }], guard := some (2, false) }) (g := 2) (s := 196) (b := false) (b' := false) rfl rfl xg
    replace hw := hw.trans (show (false == false) = true from rfl)
    rw [if_pos hw]
    clear hw xg
    have hfin := hK (.bool true) w (hG.quiet 29 33 227 _ rfl (by kernel_rfl) (by kernel_rfl))
    have HK := Lib.hid hfin
    clear hG hcl hdep hfr hK hfin hLi 
    go_simp
    exact HK.out
  | 34, ho =>
    simp only [opsKpl21b, List.getElem?_toArray, List.getElem?_cons_succ, List.getElem?_cons_zero, Option.some.injEq] at ho
    subst ho
    have x196 : a.tmps[196]?.getD undef = .bool false := by rw [← ev]; exact hG.val 2 2 196 _ rfl (hdep ⟨2, .data⟩ (by simp) rfl)
    have x227 : a.tmps[227]?.getD undef = .bool true := by rw [← ev]; exact hG.val 29 33 227 _ rfl (hdep ⟨33, .data⟩ (by simp) rfl)
    rw [if_pos (show Region.wanted _ _ = true from rfl)]
    have hfin := hK (.bool true) w (hG.quiet 30 34 228 _ rfl (by kernel_rfl) (by kernel_rfl))
    have HK := Lib.hid hfin
    clear hG hcl hdep hfr hK hfin hLi 
    go_simp
    exact HK.out
  | 35, ho =>
    simp only [opsKpl21b, List.getElem?_toArray, List.getElem?_cons_succ, List.getElem?_cons_zero, Option.some.injEq] at ho
    subst ho
    have x228 : a.tmps[228]?.getD undef = .bool true := by rw [← ev]; exact hG.val 30 34 228 _ rfl (hdep ⟨34, .data⟩ (by simp) rfl)
    rw [if_pos (show Region.wanted _ _ = true from rfl)]
    have hfin := hK (.bool true) w (hG.quiet 31 35 10 _ rfl (by kernel_rfl) (by kernel_rfl))
    have HK := Lib.hid hfin
    clear hG hcl hdep hfr hK hfin hLi 
    go_simp
    exact HK.out
  | n + 36, ho => exact absurd (Array.getElem?_eq_some_iff.1 ho).1 (by show ¬ n + 36 < 36; omega)
end Go.Proofs.Ytgpkdnnlgafenaa

namespace Go.Proofs.Ytgpkdnnlgafenaa
open Go.RowKit Kv
set_option linter.unusedVariables false
set_option maxRecDepth 100000

/-- Block b holds cells of neither of the reference's table types. -/
def NoR (w : World) (b : Nat) : Prop := ∃ C e fr, w.heap[b]? = some (.cells C e fr) ∧ e ≠ 82 ∧ e ≠ 45
theorem Tab.noR {w : World} {t : Nat} {m : List Pr} {F : List Nat} (h : Tab w t m F) : ∀ b, b ∈ F → NoR w b := by
  rcases h with ⟨_, hf, A, c, hh⟩ | ⟨r, c1, g, c2, L, _, h⟩
  · subst hf
    intro b hb
    rw [List.mem_singleton] at hb
    subst hb
    exact ⟨_, _, _, hh, by decide, by decide⟩
  · obtain ⟨C1, h1, _⟩ := own_block h.mid
    obtain ⟨C2, h2, _⟩ := own_block h.row.row
    rw [h.foot]
    intro b hb
    simp at hb
    rcases hb with rfl | rfl | rfl
    · exact ⟨_, _, _, h.head, by decide, by decide⟩
    · exact ⟨_, _, _, h1, by decide, by decide⟩
    · exact ⟨_, _, _, h2, by decide, by decide⟩
theorem RTab.only {w w' : World} {u : Nat} {v : Value} {m : List Pr} {S : List Nat} (h : RTab w u v m) (ho : Only S w w') (hS : ∀ b, b ∈ S → NoR w b) : RTab w' u v m := by
  refine ⟨(ho.block u (Array.getElem?_eq_some_iff.1 h.head).1 fun hm => ?_).trans h.head, own_only h.row ho fun k hk hm => ?_⟩
  · obtain ⟨C, e, fr, h1, _, h3⟩ := hS u hm
    rw [h.head] at h1
    injection h1 with h1
    injection h1 with _ h1 _
    exact h3 h1.symm
  · obtain ⟨C, e, fr, h1, h2, _⟩ := hS k hm
    rcases h.row.2 with ⟨hv, _⟩ | ⟨g, cap, cur, hv, _, hg, _⟩
    · rw [hv] at hk; simp [Value.ownBlock] at hk
    · rw [hv] at hk
      simp [Value.ownBlock] at hk
      subst hk
      rw [hg] at h1
      injection h1 with h1
      injection h1 with _ h1 _
      exact h2 h1.symm
/-- Both tables hold the same. -/
structure Pl (B : Nat) (w0 W : World) (t u : Nat) (m m2 : List Pr) : Prop where
  tab : ∃ F, LTab B w0 W t m F
  ref : ∃ v, RTab W u v m2
  high : B ≤ u
section
variable {B t u : Nat} {w0 W W' : World} {m m2 : List Pr}
theorem Pl.bel (h : Pl B w0 W t u m m2) : Below B w0 W := h.tab.elim fun _ k => k.bel
theorem Pl.size (h : Pl B w0 W t u m m2) : B ≤ W.heap.size := h.tab.elim fun _ k => k.size
theorem Pl.below (h : Pl B w0 W t u m m2) (hb : Below W.heap.size W W') : Pl B w0 W' t u m m2 := by
  obtain ⟨⟨F, h1⟩, ⟨v, h2⟩, h3⟩ := h
  exact ⟨⟨F, h1.below hb⟩, ⟨v, h2.below hb⟩, h3⟩
theorem Pl.commit (h : Pl B w0 W t u m m2) (A : Option Addr) (c : Nat) (l : List Pt) (hlen : m.length + l.length ≤ 255) (hp : Puts w0 B [] A l) (hk : ∀ x ∈ l, x.k.size ≤ maxLen) :
    Calls Try.prog 10 #[.pointer (some ⟨t, 0, none⟩), .slice A l.length c] W fun e W' => e = .returned (.int .i64 (if may l then 0 else 1)) ∧ Pl B w0 W' t u (if may l then steps m l else m) m2 := by
  obtain ⟨⟨F, h1⟩, ⟨v, h2⟩, h3⟩ := h
  refine (law_commit h1 A l.length c l hlen rfl (hp.law h1) hk).mono ?_
  rintro e W' ⟨he, F', k1, k2, _⟩
  exact ⟨he, ⟨F', k1⟩, ⟨v, h2.only k2 h1.tab.noR⟩, h3⟩
theorem Pl.puts (h : Pl B w0 W t u m m2) {A : Option Addr} {l : List Pt} (hp : Puts w0 B [] A l) (X : List Nat) (hX : ∀ b, b ∈ X → B ≤ b) : Puts W W.heap.size X A l := by
  obtain ⟨⟨F, h1⟩, _, _⟩ := h
  have := hp.law h1
  refine fun hn => ?_
  obtain ⟨g, o, e, k1, _, k3⟩ := this hn
  obtain ⟨g', o', e', j1, _, j3⟩ := hp hn
  rw [e] at e'
  injection e' with e'
  injection e' with e1 e2 _
  subst e1 e2
  refine ⟨g, o, e, k1, fun hm => by have := hX g hm; omega, fun j hj => ?_⟩
  obtain ⟨q1, ⟨A', c', q2, q3, q4, q5⟩, q6⟩ := k3 j hj
  obtain ⟨_, ⟨A'', c'', p2, _, _, p5⟩, _⟩ := j3 j hj
  refine ⟨q1, ⟨A', c', q2, q3, q4, ?_⟩, q6⟩
  have hcell : W.cell? ⟨g, o + j * 3 + 1, none⟩ = w0.cell? ⟨g, o + j * 3 + 1, none⟩ := h1.bel.cell (p := ⟨g, o + j * 3 + 1, none⟩) j1
  rw [hcell, p2] at q2
  injection q2 with q2
  injection q2 with q2 _ _
  subst q2
  refine fun hv => ?_
  obtain ⟨g2, o2, e2, r1, _, r3⟩ := q5 hv
  obtain ⟨g3, o3, e3, s1, _, s3⟩ := p5 hv
  rw [e2] at e3
  injection e3 with e3
  injection e3 with e3 _ _
  subst e3
  exact ⟨g2, o2, e2, r1, fun hm => by have := hX g2 hm; omega, r3⟩
theorem Pl.rcommit (h : Pl B w0 W t u m m2) (A : Option Addr) (c : Nat) (l : List Pt) (hlen : m2.length + l.length ≤ 1000) (hp : Puts W W.heap.size [u] A l) (hk : ∀ x ∈ l, x.k.size ≤ maxLen) :
    Calls Try.prog 18 #[.pointer (some ⟨u, 0, none⟩), .slice A l.length c] W fun e W' => e = .returned (.int .i64 (if may l then 0 else 1)) ∧ Pl B w0 W' t u m (if may l then steps m2 l else m2) := by
  obtain ⟨⟨F, h1⟩, ⟨v, h2⟩, h3⟩ := h
  refine (rcommit_any W u v m2 A l.length c l h2 hlen rfl hp hk).mono ?_
  rintro e W' (⟨hm, rfl, v', k1, k2⟩ | ⟨hm, rfl, k1⟩)
  · rw [if_pos hm, if_pos hm]
    refine ⟨rfl, ⟨F, h1.far k2 (fun b hb => by rw [List.mem_singleton] at hb; omega) (fun b hb => ?_)⟩, ⟨v', k1⟩, h3⟩
    rw [List.mem_singleton] at hb
    subst hb
    refine ⟨fun hF => ?_, NoB.of_cells h2.head (by decide)⟩
    obtain ⟨C, e, fr, j1, _, j3⟩ := h1.tab.noR b hF
    rw [h2.head] at j1
    injection j1 with j1
    injection j1 with _ j1 _
    exact j3 j1.symm
  · rw [if_neg (by rw [hm]; decide), if_neg (by rw [hm]; decide)]
    exact ⟨rfl, ⟨F, h1.below k1⟩, ⟨v, h2.below k1⟩, h3⟩
end
end Go.Proofs.Ytgpkdnnlgafenaa

namespace Go.Proofs.Ytgpkdnnlgafenaa
open Go.RowKit Kv
set_option linter.unusedVariables false
set_option maxRecDepth 100000

theorem conv_of {w : World} {B : Nat} {A : Option Addr} {E : List UInt8} (h : Sees w B A E) (c : Nat) : (convert 27 9 (.slice A E.length c)).run Try.prog w = .ok (.string ⟨E.toArray⟩) w :=
  run_sees_string (P := Try.prog) w 27 9 5 Try.underlying27 Try.underlying5 Try.underlying9 h _ c rfl
/-- A slice of one's own or below, read as E. -/
def Rds (W : World) (v : Value) (E : List UInt8) : Prop := ∃ A c, v = .slice A E.length c ∧ Sees W W.heap.size A E
theorem Rds.below {W W' : World} {v : Value} {E : List UInt8} (h : Rds W v E) (hb : Below W.heap.size W W') : Rds W' v E := by
  obtain ⟨A, c, e, k⟩ := h
  exact ⟨A, c, e, (k.below hb (Nat.le_refl _)).mono hb.size⟩
theorem Rds.conv {W : World} {v : Value} {E : List UInt8} (h : Rds W v E) : ∃ A c, v = .slice A E.length c ∧ (convert 27 9 (.slice A E.length c)).run Try.prog W = .ok (.string ⟨E.toArray⟩) W := by
  obtain ⟨A, c, e, k⟩ := h
  exact ⟨A, c, e, conv_of k c⟩
theorem Rds.enc {l : List Pt} {w W : World} {e : Ending} (h : EncEnd l w e W) : ∃ v, e = .returned v ∧ Rds W v (encode l) ∧ Below w.heap.size w W := by
  obtain ⟨A, n, c, rfl, rfl, _, _, k, hb⟩ := h
  exact ⟨_, rfl, ⟨A, c, rfl, k.sees⟩, hb⟩

def nextM (m : List Pr) (l : List Pt) : List Pr := if may l then steps m l else m
structure P9 (B : Nat) (w0 : World) (t u : Nat) (m : List Pr) (l : List Pt) (p : Nat) (R : Nat → Value) (W : World) : Prop where
  st0 : p = 0 → Pl B w0 W t u m m
  st1 : p = 1 ∨ p = 2 → Pl B w0 W t u (nextM m l) m
  st3 : 3 ≤ p → Pl B w0 W t u (nextM m l) (nextM m l)
  r0 : ∀ k, k < p → k = 0 ∨ k = 2 → R k = .int .i64 (if may l then 0 else 1)
  r1 : p = 2 → ∃ A c, R 1 = .slice A l.length c ∧ Puts W W.heap.size [u] A l
  r4 : p = 5 → ∃ A c, R 4 = .slice A l.length c ∧ Puts W W.heap.size [] A l
  r35 : ∀ k, k < p → k = 3 ∨ k = 5 → Rds W (R k) (encode l)
theorem P9.bel {B : Nat} {w0 W : World} {t u p : Nat} {m : List Pr} {l : List Pt} {R : Nat → Value} (h : P9 B w0 t u m l p R W) : Below B w0 W := by
  by_cases h0 : p = 0
  · exact (h.st0 h0).bel
  · by_cases h1 : p = 1 ∨ p = 2
    · exact (h.st1 h1).bel
    · exact (h.st3 (by omega)).bel
theorem p9_run {Q : Exit → Act → World → Prop} {a0 : Act} {wp : World} (B : Nat) (w0 : World) (t u : Nat) (m : List Pr) (l : List Pt) (g o i N cN c : Nat) (A : Option Addr) (hm : m.length + l.length ≤ 255) (hl : l.length ≤ 8) (hp : Puts w0 B [] A l) (hk : ∀ x ∈ l, x.k.size ≤ maxLen) (hg : g < B) (hcell : w0.cell? ⟨g, o + i, none⟩ = some (.slice A l.length c)) (hiN : (i : Int) < (N : Int)) (hpl : Pl B w0 wp t u m m)
    (hsz : 84 < a0.tmps.size) (in0 : a0.eval (.tmp 0) = .slice (some ⟨g, o, none⟩) N cN) (in11 : a0.eval (.tmp 11) = .pointer (some ⟨t, 0, none⟩)) (in12 : a0.eval (.tmp 12) = .pointer (some ⟨u, 0, none⟩)) (in13 : a0.eval (.tmp 13) = .int .i64 (i : Int))
    (fin : ∀ a w, Fr [55, 56, 57, 58, 59, 60, 61, 62, 63, 64, 65, 66, 67, 68, 69, 70, 71, 72, 73, 74, 75, 76, 77, 78, 79, 80, 81, 82, 83, 84] a0 a → a.eval (.tmp 84) = .bool false → Pl B w0 w t u (nextM m l) (nextM m l) → Q .normal a w) :
    (Code.region 9 opsKpl9 true).wp Try.prog Q a0 wp := by
  have hu : ∀ {W : World} {m1 m2 : List Pr}, Pl B w0 W t u m1 m2 → ∀ b, b ∈ [u] → b < W.heap.size := fun h b hb => by
    rw [List.mem_singleton] at hb; subst hb
    obtain ⟨v, hv⟩ := h.ref
    exact (Array.getElem?_eq_some_iff.1 hv.head).1
  have hub : ∀ {W : World} {m1 m2 : List Pr}, Pl B w0 W t u m1 m2 → ∀ b, b ∈ [u] → B ≤ b := fun h b hb => by
    rw [List.mem_singleton] at hb; subst hb; exact h.high
  refine kpl9 t u g o i N cN l.length c (encode l).length A (if may l then 0 else 1) ⟨(encode l).toArray⟩ (P9 B w0 t u m l) hsz in0 in11 in12 in13 hiN ?_ (fun p R w h => h.r0) (fun p R w h k hk hk2 => (h.r35 k hk hk2).conv) ?_ ?_ ?_ ?_ ?_ ?_ ?_ (fun a w hfr h84 h => fin a w hfr h84 (h.st3 (by omega)))
  · intro p R w h
    exact (h.bel.cell (p := ⟨g, o + i, none⟩) hg).trans hcell
  · intro R W h
    refine ((h.st0 rfl).commit A c l hm hp hk).mono ?_
    rintro e W' ⟨rfl, k1⟩
    exact ⟨_, rfl, (fun h => by omega), fun _ => k1, (fun h => by omega), (fun k hk hk2 => by rw [show k = 0 by omega]; exact setR_self ..), (fun h => by omega), (fun h => by omega), (fun k hk hk2 => by omega)⟩
  · intro R W h
    have q := h.st1 (by omega)
    refine (own_any W A l.length c l [u] rfl (by omega) (q.puts hp [u] (hub q)) (hu q)).mono ?_
    rintro e W' ⟨A', c', rfl, k1, hb⟩
    exact ⟨_, rfl, (fun h => by omega), fun _ => q.below hb, (fun h => by omega), (fun k hk hk2 => by rw [setR_ne _ _ (by omega)]; exact h.r0 k (by omega) hk2), fun _ => ⟨A', c', setR_self .., k1⟩, (fun h => by omega), (fun k hk hk2 => by omega)⟩
  · intro R W h
    have q := h.st1 (by omega)
    obtain ⟨A', c', e1, k1⟩ := h.r1 rfl
    rw [e1]
    refine (q.rcommit A' c' l (by omega) k1 hk).mono ?_
    rintro e W' ⟨rfl, k2⟩
    refine ⟨_, rfl, (fun h => by omega), (fun h => by omega), fun _ => k2, (fun k hk hk2 => ?_), (fun h => by omega), (fun h => by omega), (fun k hk hk2 => by omega)⟩
    by_cases h2 : k = 2
    · subst h2; exact setR_self ..
    · rw [setR_ne _ _ h2]; exact h.r0 k (by omega) hk2
  · intro R W h
    have q := h.st3 (by omega)
    refine (encode_any W A l.length c l [] rfl (by omega) (q.puts hp [] (fun b hb => by cases hb)) hk).mono ?_
    intro e W' he
    obtain ⟨v, rfl, k1, hb⟩ := Rds.enc he
    exact ⟨_, rfl, (fun h => by omega), (fun h => by omega), fun _ => q.below hb, (fun k hk hk2 => by rw [setR_ne _ _ (by omega)]; exact h.r0 k (by omega) hk2), (fun h => by omega), (fun h => by omega), (fun k hk hk2 => by rw [show k = 3 by omega, setR_self]; exact k1)⟩
  · intro R W h
    have q := h.st3 (by omega)
    refine (own_any W A l.length c l [] rfl (by omega) (q.puts hp [] (fun b hb => by cases hb)) (fun b hb => by cases hb)).mono ?_
    rintro e W' ⟨A', c', rfl, k1, hb⟩
    exact ⟨_, rfl, (fun h => by omega), (fun h => by omega), fun _ => q.below hb, (fun k hk hk2 => by rw [setR_ne _ _ (by omega)]; exact h.r0 k (by omega) hk2), (fun h => by omega), fun _ => ⟨A', c', setR_self .., k1⟩, (fun k hk hk2 => by rw [setR_ne _ _ (by omega)]; exact (h.r35 k (by omega) hk2).below hb)⟩
  · intro R W h
    have q := h.st3 (by omega)
    obtain ⟨A', c', e1, k1⟩ := h.r4 rfl
    rw [e1]
    refine (rencode_any W A' l.length c' l [] rfl (by omega) k1 hk).mono ?_
    intro e W' he
    obtain ⟨v, rfl, k2, hb⟩ := Rds.enc he
    refine ⟨_, rfl, (fun h => by omega), (fun h => by omega), fun _ => q.below hb, (fun k hk hk2 => by rw [setR_ne _ _ (by omega)]; exact h.r0 k (by omega) hk2), (fun h => by omega), (fun h => by omega), (fun k hk hk2 => ?_)⟩
    by_cases h5 : k = 5
    · subst h5; rw [setR_self]; exact k2
    · rw [setR_ne _ _ h5]; exact (h.r35 k (by omega) hk2).below hb
  · exact ⟨fun _ => hpl.below (Below.refl _ _).drew, (fun h => by omega), (fun h => by omega), (fun k hk => by omega), (fun h => by omega), (fun h => by omega), (fun k hk => by omega)⟩

structure P13 (B : Nat) (w0 wp : World) (t u : Nat) (m : List Pr) (fr to : ByteArray) (most : Int) (p : Nat) (R : Nat → Value) (W : World) : Prop where
  pl : Pl B w0 W t u m m
  bel : Below wp.heap.size wp W
  r0 : 0 < p → R 0 = .int .i64 (m.length : Int)
  r1 : p = 2 ∨ p = 3 → ∃ A c L, R 1 = .slice A L.length c ∧ PRow W (.slice A L.length c) L ∧ L.map Ent.pr = rng m fr to most
  r2 : p = 3 → ∃ A c, R 2 = .slice A (rng m fr to most).length c ∧ RRow W (.slice A (rng m fr to most).length c) (rng m fr to most)
  r3 : 3 < p → R 3 = .bool true
  r45 : ∀ k, k < p → k = 4 ∨ k = 5 → Rds W (R k) (Kv.bytes m)
theorem p13_run {Q : Exit → Act → World → Prop} {a0 : Act} {wp : World} (B : Nat) (w0 : World) (t u : Nat) (m : List Pr) (fr to : ByteArray) (most : Int) (gv : List UInt8) (Av Au : Option Addr) (cv cu : Nat) (h : Bool) (hm : m.length ≤ 255) (hmost : -9223372036854775808 ≤ most ∧ most ≤ 9223372036854775807)
    (hpl : Pl B w0 wp t u m m) (hgood : Kv.Good m) (hr : RTab wp u (.slice Au m.length cu) m) (hv : Sees wp wp.heap.size Av gv)
    (hsz : 138 < a0.tmps.size) (in1 : a0.eval (.tmp 1) = .string fr) (in2 : a0.eval (.tmp 2) = .string to) (in3 : a0.eval (.tmp 3) = .int .i64 most) (in11 : a0.eval (.tmp 11) = .pointer (some ⟨t, 0, none⟩)) (in12 : a0.eval (.tmp 12) = .pointer (some ⟨u, 0, none⟩)) (in14 : a0.eval (.tmp 14) = .slice Av gv.length cv) (in15 : a0.eval (.tmp 15) = .bool h) (in16 : a0.eval (.tmp 16) = .string ⟨gv.toArray⟩) (in17 : a0.eval (.tmp 17) = .bool h)
    (fin : ∀ a w, Fr [97, 98, 99, 100, 101, 102, 103, 104, 105, 106, 107, 108, 109, 110, 111, 112, 113, 114, 115, 116, 117, 118, 119, 120, 121, 122, 123, 124, 125, 126, 127, 128, 129, 130, 131, 132, 133, 134, 135, 136, 137, 138] a0 a → a.eval (.tmp 138) = .bool false → Pl B w0 w t u m m → Q .normal a w) :
    (Code.region 13 opsKpl13 true).wp Try.prog Q a0 wp := by
  have hrl := rng_length m fr to most
  refine kpl13 t u gv.length cv m.length cu (Kv.bytes m).length Av Au h most fr to ⟨gv.toArray⟩ ⟨(Kv.bytes m).toArray⟩ (P13 B w0 wp t u m fr to most) hsz in1 in2 in3 in11 in12 in14 in15 in16 in17 ?_ ?_ (fun p R w h => h.r0) (fun p R w h => h.r3) (fun p R w h k hk hk2 => (h.r45 k hk hk2).conv) ?_ ?_ ?_ ?_ ?_ ?_ ?_ (fun a w hfr h138 h => fin a w hfr h138 h.pl)
  · intro p R w h
    have := (hr.below h.bel).head
    simp [World.cell?, this]
  · intro p R w h
    exact conv_of (hv.below h.bel (Nat.le_refl _)) cv
  · intro R W h
    obtain ⟨F, k1⟩ := h.pl.tab
    refine (len_any W t m F k1.tab).mono ?_
    rintro e W' ⟨rfl, rfl⟩
    exact ⟨_, rfl, h.pl, h.bel, fun _ => setR_self .., (fun h => by omega), (fun h => by omega), (fun h => by omega), (fun k hk hk2 => by omega)⟩
  · intro R W h
    obtain ⟨F, k1⟩ := h.pl.tab
    refine (range_any W t m F fr to most k1.tab k1.asc (by omega) k1.good hmost).mono ?_
    rintro e W' ⟨A, n, c, L, rfl, rfl, q1, q2, hb, _⟩
    exact ⟨_, rfl, h.pl.below hb, h.bel.trans (hb.mono h.bel.size), fun _ => by rw [setR_ne _ _ (by omega)]; exact h.r0 (by omega), fun _ => ⟨A, c, L, setR_self .., q1, q2⟩, (fun h => by omega), (fun h => by omega), (fun k hk hk2 => by omega)⟩
  · intro R W h
    refine (rrange_any W u _ m fr to most (hr.below h.bel) (by omega) hmost).mono ?_
    rintro e W' ⟨A, n, c, L, rfl, rfl, rfl, q1, hb⟩
    refine ⟨_, rfl, h.pl.below hb, h.bel.trans (hb.mono h.bel.size), fun _ => by rw [setR_ne _ _ (by omega)]; exact h.r0 (by omega), fun _ => ?_, fun _ => ⟨A, c, setR_self .., q1⟩, (fun h => by omega), (fun k hk hk2 => by omega)⟩
    obtain ⟨A', c', L', e1, e2, e3⟩ := h.r1 (by omega)
    exact ⟨A', c', L', by rw [setR_ne _ _ (by omega)]; exact e1, e2.below hb, e3⟩
  · intro R W h
    obtain ⟨A', c', L', e1, e2, e3⟩ := h.r1 (by omega)
    obtain ⟨A2, c2, f1, f2⟩ := h.r2 rfl
    have hlen : L'.length ≤ m.length := by have := congrArg List.length e3; rw [List.length_map] at this; omega
    rw [e1, f1]
    refine (pairs_eq W A' L'.length c' L' A2 _ c2 (rng m fr to most) rfl rfl (by omega) (by omega) e2 f2 true (by rw [e3]; simp)).mono ?_
    rintro e W' ⟨rfl, hb⟩
    exact ⟨_, rfl, h.pl.below hb, h.bel.trans (hb.mono h.bel.size), fun _ => by rw [setR_ne _ _ (by omega)]; exact h.r0 (by omega), (fun h => by omega), (fun h => by omega), fun _ => setR_self .., (fun k hk hk2 => by omega)⟩
  · intro R W h
    obtain ⟨F, k1⟩ := h.pl.tab
    refine (law_bytes k1 (by omega)).mono ?_
    rintro e W' ⟨A, n, c, rfl, rfl, _, _, q1, hb⟩
    exact ⟨_, rfl, h.pl.below hb, h.bel.trans (hb.mono h.bel.size), fun _ => by rw [setR_ne _ _ (by omega)]; exact h.r0 (by omega), (fun h => by omega), (fun h => by omega), fun _ => by rw [setR_ne _ _ (by omega)]; exact h.r3 (by omega), (fun k hk hk2 => by rw [show k = 4 by omega, setR_self]; exact ⟨A, c, rfl, q1.sees⟩)⟩
  · intro R W h
    refine (rbytes_any W u _ m (hr.below h.bel) (by omega) hgood).mono ?_
    intro e W' he
    obtain ⟨v, rfl, k2, hb⟩ := Rds.enc he
    have eb : encode (m.map put1) = Kv.bytes m := by unfold encode Kv.bytes; rw [if_pos (puts_may hgood)]
    rw [eb] at k2
    refine ⟨_, rfl, h.pl.below hb, h.bel.trans (hb.mono h.bel.size), fun _ => by rw [setR_ne _ _ (by omega)]; exact h.r0 (by omega), (fun h => by omega), (fun h => by omega), fun _ => by rw [setR_ne _ _ (by omega)]; exact h.r3 (by omega), (fun k hk hk2 => ?_)⟩
    by_cases h5 : k = 5
    · subst h5; rw [setR_self]; exact k2
    · rw [setR_ne _ _ h5]; exact (h.r45 k (by omega) hk2).below hb
  · exact ⟨hpl.below (Below.refl _ _).drew, (Below.refl _ _).drew, (fun h => by omega), (fun h => by omega), (fun h => by omega), (fun h => by omega), (fun k hk => by omega)⟩

structure P21 (wp : World) (L : List Pt) (M : List Pr) (p : Nat) (R : Nat → Value) (W : World) : Prop where
  bel : Below wp.heap.size wp W
  r01 : ∀ k, k < p → k = 0 ∨ k = 1 → Rds W (R k) (encode L)
  r23 : ∀ k, k < p → k = 2 ∨ k = 3 → Rds W (R k) (Kv.bytes M)
section
variable {wp : World} {L : List Pt} {M : List Pr}
theorem P21.start {R : Nat → Value} : P21 wp L M 0 R wp.drew := ⟨(Below.refl _ _).drew, (fun k hk => by omega), (fun k hk => by omega)⟩
theorem P21.next {p : Nat} {R : Nat → Value} {W W' : World} {v : Value} (h : P21 wp L M p R W) (hb : Below W.heap.size W W') (h1 : p = 0 ∨ p = 1 → Rds W' v (encode L)) (h2 : p = 2 ∨ p = 3 → Rds W' v (Kv.bytes M)) : P21 wp L M (p + 1) (setR R p v) W' := by
  refine ⟨h.bel.trans (hb.mono h.bel.size), fun k hk hk2 => ?_, fun k hk hk2 => ?_⟩
  · by_cases e : k = p
    · subst e; rw [setR_self]; exact h1 hk2
    · rw [setR_ne _ _ e]; exact (h.r01 k (by omega) hk2).below hb
  · by_cases e : k = p
    · subst e; rw [setR_self]; exact h2 hk2
    · rw [setR_ne _ _ e]; exact (h.r23 k (by omega) hk2).below hb
theorem P21.enc {p : Nat} (hp2 : p = 0 ∨ p = 1) {R : Nat → Value} {W : World} (h : P21 wp L M p R W) (Ax : Option Addr) (cx : Nat) (hl : L.length ≤ 400) (hx : Puts wp wp.heap.size [] Ax L) (hk : ∀ x ∈ L, x.k.size ≤ maxLen) :
    (Calls Try.prog 16 #[.slice Ax L.length cx] W fun e w' => ∃ v, e = .returned v ∧ P21 wp L M (p + 1) (setR R p v) w') ∧ (Calls Try.prog 20 #[.slice Ax L.length cx] W fun e w' => ∃ v, e = .returned v ∧ P21 wp L M (p + 1) (setR R p v) w') := by
  have hps : Puts W W.heap.size [] Ax L := (hx.below h.bel (Nat.le_refl _)).wide h.bel.size
  constructor
  · refine (encode_any W Ax L.length cx L [] rfl hl hps hk).mono ?_
    intro e W' he
    obtain ⟨v, rfl, k2, hb⟩ := Rds.enc he
    exact ⟨_, rfl, h.next hb (fun _ => k2) (fun h => by omega)⟩
  · refine (rencode_any W Ax L.length cx L [] rfl hl hps hk).mono ?_
    intro e W' he
    obtain ⟨v, rfl, k2, hb⟩ := Rds.enc he
    exact ⟨_, rfl, h.next hb (fun _ => k2) (fun h => by omega)⟩
end
theorem p21a_run {Q : Exit → Act → World → Prop} {a0 : Act} {wp : World} (L : List Pt) (Ax Ay : Option Addr) (cx cy : Nat) (hl : L.length ≤ 400) (hx : Puts wp wp.heap.size [] Ax L) (hy : Puts wp wp.heap.size [] Ay L) (hk : ∀ x ∈ L, x.k.size ≤ maxLen)
    (hsz : 228 < a0.tmps.size) (in18 : a0.eval (.tmp 18) = .slice Ax L.length cx) (in20 : a0.eval (.tmp 20) = .slice Ay L.length cy) (in21 : a0.eval (.tmp 21) = .bool true) (in25 : a0.eval (.tmp 25) = .bool false)
    (fin : ∀ a w, Fr [194, 195, 196, 197, 198, 199, 200, 201, 202, 203, 204, 205, 206, 207, 208, 209, 210, 211, 212, 213, 214, 215, 216, 217, 218, 219, 220, 221, 222, 223, 224, 225, 226, 227, 228, 10] a0 a → a.eval (.tmp 10) = .bool true → Below wp.heap.size wp w → Q .normal a w) :
    (Code.region 21 opsKpl21a true).wp Try.prog Q a0 wp :=
  kpl21a L.length cx cy (encode L).length Ax Ay ⟨(encode L).toArray⟩ (P21 wp L []) hsz in18 in20 in21 in25 (fun p R w h k hk hk2 => (h.r01 k hk hk2).conv) (fun R W h => (h.enc (.inl rfl) Ax cx hl hx hk).1) (fun R W h => (h.enc (.inr rfl) Ay cy hl hy hk).2) P21.start (fun a w hfr h10 h => fin a w hfr h10 h.bel)
theorem p21b_run {Q : Exit → Act → World → Prop} {a0 : Act} {wp : World} (L : List Pt) (M : List Pr) (t u : Nat) (F : List Nat) (v : Value) (Ax Ay : Option Addr) (cx cy : Nat) (hl : L.length ≤ 400) (hx : Puts wp wp.heap.size [] Ax L) (hy : Puts wp wp.heap.size [] Ay L) (hk : ∀ x ∈ L, x.k.size ≤ maxLen) (ht : Tab wp t M F) (ha : Asc M) (hg : Kv.Good M) (hM : M.length ≤ 400) (hu : RTab wp u v M)
    (hsz : 228 < a0.tmps.size) (in18 : a0.eval (.tmp 18) = .slice Ax L.length cx) (in20 : a0.eval (.tmp 20) = .slice Ay L.length cy) (in21 : a0.eval (.tmp 21) = .bool true) (in22 : a0.eval (.tmp 22) = .pointer (some ⟨t, 0, none⟩)) (in24 : a0.eval (.tmp 24) = .pointer (some ⟨u, 0, none⟩)) (in25 : a0.eval (.tmp 25) = .bool true)
    (fin : ∀ a w, Fr [194, 195, 196, 197, 198, 199, 200, 201, 202, 203, 204, 205, 206, 207, 208, 209, 210, 211, 212, 213, 214, 215, 216, 217, 218, 219, 220, 221, 222, 223, 224, 225, 226, 227, 228, 10] a0 a → a.eval (.tmp 10) = .bool true → Below wp.heap.size wp w → Q .normal a w) :
    (Code.region 21 opsKpl21b true).wp Try.prog Q a0 wp := by
  refine kpl21b L.length cx cy (encode L).length Ax Ay ⟨(encode L).toArray⟩ t u (Kv.bytes M).length ⟨(Kv.bytes M).toArray⟩ (P21 wp L M) hsz in18 in20 in21 in22 in24 in25 (fun p R w h k hk hk2 => (h.r01 k hk hk2).conv) (fun p R w h k hk hk2 => (h.r23 k hk hk2).conv) (fun R W h => (h.enc (.inl rfl) Ax cx hl hx hk).1) (fun R W h => (h.enc (.inr rfl) Ay cy hl hy hk).2) (fun R W h => ?_) (fun R W h => ?_) P21.start (fun a w hfr h10 h => fin a w hfr h10 h.bel)
  · refine (bytes_any W t M F (ht.below h.bel) ha hM hg).mono ?_
    rintro e W' ⟨A, n, c, rfl, rfl, _, _, q1, hb⟩
    exact ⟨_, rfl, h.next hb (fun h => by omega) (fun _ => ⟨A, c, rfl, q1.sees⟩)⟩
  · refine (rbytes_any W u v M (hu.below h.bel) hM hg).mono ?_
    intro e W' he
    obtain ⟨v, rfl, k2, hb⟩ := Rds.enc he
    have eb : encode (M.map put1) = Kv.bytes M := by unfold encode Kv.bytes; rw [if_pos (puts_may hg)]
    rw [eb] at k2
    exact ⟨_, rfl, h.next hb (fun h => by omega) (fun _ => k2)⟩
end Go.Proofs.Ytgpkdnnlgafenaa
