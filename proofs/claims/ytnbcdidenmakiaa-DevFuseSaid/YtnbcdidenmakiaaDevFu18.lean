/- DevFuse's write of an act to both devices. -/
import Derived.Test.YtnbcdidenmakiaaVals
import Derived.Test.YtnbcdidenmakiaaDevActs
import Derived.Test.YtnbcdidenmakiaaDevSt
import Derived.WalkKit
import Derived.WalkSpells
import Derived.WalkLawsBesides
import Derived.Lib.Hide
import Derived.Laws.Entries
namespace Go.Proofs.Ytnbcdidenmakiaa
open Go.RowKit Dk
set_option linter.unusedVariables false
set_option linter.unusedSimpArgs false

def opsFu18 : Array Oper := #[
  { dst := some 78, op := Op.move (Operand.tmp 9), type := 23, pos := "more.go:29", after := #[], guard := none },
  { dst := some 79, op := Op.move (Operand.tmp 0), type := 37, pos := "more.go:29", after := #[], guard := none },
  { dst := some 80, op := Op.move (Operand.tmp 14), type := 3, pos := "more.go:29", after := #[], guard := none },
  { dst := some 81, op := Op.indexAddr 37 (Operand.tmp 79) (Operand.tmp 80), type := 0, pos := "more.go:29", after := #[{ on := 1, ground := Ground.data }, { on := 2, ground := Ground.data }], guard := none },
  { dst := some 82, op := Op.fieldAddr 41 (Operand.tmp 81) 1, type := 0, pos := "more.go:29", after := #[{ on := 3, ground := Ground.data }], guard := none },
  { dst := some 83, op := Op.load 3 (Operand.tmp 82), type := 3, pos := "more.go:29", after := #[{ on := 4, ground := Ground.data }], guard := none },
  { dst := some 84, op := Op.binOp BinOp.and 3 (Operand.tmp 83) (Operand.const (Value.int IntKind.i64 7)) 3, type := 3, pos := "more.go:29", after := #[{ on := 5, ground := Ground.data }], guard := none },
  { dst := some 85, op := Op.move (Operand.tmp 0), type := 37, pos := "more.go:29", after := #[], guard := none },
  { dst := some 86, op := Op.move (Operand.tmp 14), type := 3, pos := "more.go:29", after := #[], guard := none },
  { dst := some 87, op := Op.indexAddr 37 (Operand.tmp 85) (Operand.tmp 86), type := 0, pos := "more.go:29", after := #[{ on := 7, ground := Ground.data }, { on := 8, ground := Ground.data }], guard := none },
  { dst := some 88, op := Op.fieldAddr 41 (Operand.tmp 87) 3, type := 0, pos := "more.go:29", after := #[{ on := 9, ground := Ground.data }], guard := none },
  { dst := some 89, op := Op.load 5 (Operand.tmp 88), type := 5, pos := "more.go:29", after := #[{ on := 10, ground := Ground.data }], guard := none },
  { dst := some 90, op := Op.call { callee := Callee.value (Operand.func 11), args := #[Operand.tmp 89], argTypes := #[5] }, type := 28, pos := "more.go:29", after := #[{ on := 11, ground := Ground.data }], guard := none },
  { dst := some 91, op := Op.call { callee := Callee.value (Operand.func 10), args := #[Operand.tmp 78, Operand.tmp 84, Operand.tmp 90], argTypes := #[23, 3, 28] }, type := 24, pos := "more.go:29", after := #[{ on := 0, ground := Ground.data }, { on := 6, ground := Ground.data }, { on := 12, ground := Ground.data }, { on := 12, ground := Ground.chain }], guard := none },
  { dst := some 92, op := Op.move (Operand.tmp 11), type := 23, pos := "more.go:29", after := #[], guard := none },
  { dst := some 93, op := Op.move (Operand.tmp 0), type := 37, pos := "more.go:29", after := #[], guard := none },
  { dst := some 94, op := Op.move (Operand.tmp 14), type := 3, pos := "more.go:29", after := #[], guard := none },
  { dst := some 95, op := Op.indexAddr 37 (Operand.tmp 93) (Operand.tmp 94), type := 0, pos := "more.go:29", after := #[{ on := 15, ground := Ground.data }, { on := 16, ground := Ground.data }], guard := none },
  { dst := some 96, op := Op.fieldAddr 41 (Operand.tmp 95) 1, type := 0, pos := "more.go:29", after := #[{ on := 17, ground := Ground.data }], guard := none },
  { dst := some 97, op := Op.load 3 (Operand.tmp 96), type := 3, pos := "more.go:29", after := #[{ on := 18, ground := Ground.data }], guard := none },
  { dst := some 98, op := Op.binOp BinOp.and 3 (Operand.tmp 97) (Operand.const (Value.int IntKind.i64 7)) 3, type := 3, pos := "more.go:29", after := #[{ on := 19, ground := Ground.data }], guard := none },
  { dst := some 99, op := Op.move (Operand.tmp 0), type := 37, pos := "more.go:29", after := #[], guard := none },
  { dst := some 100, op := Op.move (Operand.tmp 14), type := 3, pos := "more.go:29", after := #[], guard := none },
  { dst := some 101, op := Op.indexAddr 37 (Operand.tmp 99) (Operand.tmp 100), type := 0, pos := "more.go:29", after := #[{ on := 21, ground := Ground.data }, { on := 22, ground := Ground.data }], guard := none },
  { dst := some 102, op := Op.fieldAddr 41 (Operand.tmp 101) 3, type := 0, pos := "more.go:29", after := #[{ on := 23, ground := Ground.data }], guard := none },
  { dst := some 103, op := Op.load 5 (Operand.tmp 102), type := 5, pos := "more.go:29", after := #[{ on := 24, ground := Ground.data }], guard := none },
  { dst := some 104, op := Op.call { callee := Callee.value (Operand.func 11), args := #[Operand.tmp 103], argTypes := #[5] }, type := 28, pos := "more.go:29", after := #[{ on := 25, ground := Ground.data }, { on := 13, ground := Ground.chain }], guard := none },
  { dst := some 105, op := Op.call { callee := Callee.value (Operand.func 10), args := #[Operand.tmp 92, Operand.tmp 98, Operand.tmp 104], argTypes := #[23, 3, 28] }, type := 24, pos := "more.go:29", after := #[{ on := 14, ground := Ground.data }, { on := 20, ground := Ground.data }, { on := 26, ground := Ground.data }, { on := 26, ground := Ground.chain }], guard := none },
  { dst := some 15, op := Op.assign (Operand.tmp 91), type := 24, pos := "more.go:29", after := #[{ on := 13, ground := Ground.data }, { on := 27, ground := Ground.chain }, { on := 0, ground := Ground.phase }, { on := 1, ground := Ground.phase }, { on := 2, ground := Ground.phase }, { on := 3, ground := Ground.phase }, { on := 4, ground := Ground.phase }, { on := 5, ground := Ground.phase }, { on := 6, ground := Ground.phase }, { on := 7, ground := Ground.phase }, { on := 8, ground := Ground.phase }, { on := 9, ground := Ground.phase }, { on := 10, ground := Ground.phase }, { on := 11, ground := Ground.phase }, { on := 12, ground := Ground.phase }, { on := 13, ground := Ground.phase }, { on := 14, ground := Ground.textOnly Departure.lateStores }, { on := 15, ground := Ground.textOnly Departure.lateStores }, { on := 16, ground := Ground.textOnly Departure.lateStores }, { on := 17, ground := Ground.textOnly Departure.lateStores }, { on := 18, ground := Ground.textOnly Departure.lateStores }, { on := 19, ground := Ground.textOnly Departure.lateStores }, { on := 20, ground := Ground.textOnly Departure.lateStores }, { on := 21, ground := Ground.textOnly Departure.lateStores }, { on := 22, ground := Ground.textOnly Departure.lateStores }, { on := 23, ground := Ground.textOnly Departure.lateStores }, { on := 24, ground := Ground.textOnly Departure.lateStores }, { on := 25, ground := Ground.textOnly Departure.lateStores }, { on := 26, ground := Ground.textOnly Departure.lateStoresUnsure }, { on := 27, ground := Ground.textOnly Departure.lateStoresUnsure }], guard := none },
  { dst := some 16, op := Op.assign (Operand.tmp 105), type := 24, pos := "more.go:29", after := #[{ on := 27, ground := Ground.data }, { on := 28, ground := Ground.chain }, { on := 0, ground := Ground.phase }, { on := 1, ground := Ground.phase }, { on := 2, ground := Ground.phase }, { on := 3, ground := Ground.phase }, { on := 4, ground := Ground.phase }, { on := 5, ground := Ground.phase }, { on := 6, ground := Ground.phase }, { on := 7, ground := Ground.phase }, { on := 8, ground := Ground.phase }, { on := 9, ground := Ground.phase }, { on := 10, ground := Ground.phase }, { on := 11, ground := Ground.phase }, { on := 12, ground := Ground.phase }, { on := 13, ground := Ground.phase }, { on := 14, ground := Ground.phase }, { on := 15, ground := Ground.phase }, { on := 16, ground := Ground.phase }, { on := 17, ground := Ground.phase }, { on := 18, ground := Ground.phase }, { on := 19, ground := Ground.phase }, { on := 20, ground := Ground.phase }, { on := 21, ground := Ground.phase }, { on := 22, ground := Ground.phase }, { on := 23, ground := Ground.phase }, { on := 24, ground := Ground.phase }, { on := 25, ground := Ground.phase }, { on := 26, ground := Ground.phase }, { on := 27, ground := Ground.phase }, { on := 28, ground := Ground.phase }], guard := none }]

def fu18Vals (g o n cp da db i m : Nat) (ea eb : Int) (x : ActD) : List (Nat × Nat × Value) := [(0, 78, .pointer (some ⟨da, 0, none⟩)), (1, 79, .slice (some ⟨g, o, none⟩) n cp), (2, 80, .int .i64 (i : Int)), (3, 81, .pointer (some ⟨g, o + i * 5, none⟩)), (4, 82, .pointer (some ⟨g, o + i * 5 + 1, none⟩)), (5, 83, .int .i64 x.at_), (6, 84, .int .i64 (m : Int)), (7, 85, .slice (some ⟨g, o, none⟩) n cp), (8, 86, .int .i64 (i : Int)), (9, 87, .pointer (some ⟨g, o + i * 5, none⟩)), (10, 88, .pointer (some ⟨g, o + i * 5 + 3, none⟩)), (11, 89, .int .u8 (x.c.toNat : Int)), (14, 92, .pointer (some ⟨db, 0, none⟩)), (15, 93, .slice (some ⟨g, o, none⟩) n cp), (16, 94, .int .i64 (i : Int)), (17, 95, .pointer (some ⟨g, o + i * 5, none⟩)), (18, 96, .pointer (some ⟨g, o + i * 5 + 1, none⟩)), (19, 97, .int .i64 x.at_), (20, 98, .int .i64 (m : Int)), (21, 99, .slice (some ⟨g, o, none⟩) n cp), (22, 100, .int .i64 (i : Int)), (23, 101, .pointer (some ⟨g, o + i * 5, none⟩)), (24, 102, .pointer (some ⟨g, o + i * 5 + 3, none⟩)), (25, 103, .int .u8 (x.c.toNat : Int)), (28, 15, .int .i64 ea), (29, 16, .int .i64 eb)]
def fu18C : List (Nat × Nat) := [(12, 90), (13, 91), (26, 104), (27, 105)]

set_option maxHeartbeats 4000000 in
set_option maxRecDepth 100000 in
theorem fu18 {Q : Exit → Act → World → Prop} {a0 : Act} {wp : World} (g o n cp da db i m : Nat) (ea eb : Int) (x : ActD) (S : Nat → (Nat → Value) → World → Prop)
    (hsz : 105 < a0.tmps.size) (in0 : a0.eval (.tmp 0) = .slice (some ⟨g, o, none⟩) n cp) (in9 : a0.eval (.tmp 9) = .pointer (some ⟨da, 0, none⟩)) (in11 : a0.eval (.tmp 11) = .pointer (some ⟨db, 0, none⟩)) (in14 : a0.eval (.tmp 14) = .int .i64 (i : Int))
    (w0 : World) (B : Nat) (hi : i < n) (hcp : n ≤ cp) (hn : n ≤ 100) (hg : g < B) (hx : ActAt w0 B g (o + i * 5) x) (hm : bits .and .i64 x.at_ 7 = (m : Int)) (base : ∀ p R w, S p R w → Below B w0 w)
    (hc1 : ∀ R w, S 0 R w → Calls Try.prog 11 #[.int .u8 (x.c.toNat : Int)] w fun e w' => ∃ v, e = .returned v ∧ S 1 (setR R 0 v) w')
    (hc2 : ∀ R w, S 1 R w → ∃ A2, R 0 = .slice A2 512 512 ∧ Calls Try.prog 10 #[.pointer (some ⟨da, 0, none⟩), .int .i64 (m : Int), .slice A2 512 512] w fun e w' => ∃ v, e = .returned v ∧ S 2 (setR R 1 v) w')
    (hc3 : ∀ R w, S 2 R w → Calls Try.prog 11 #[.int .u8 (x.c.toNat : Int)] w fun e w' => ∃ v, e = .returned v ∧ S 3 (setR R 2 v) w')
    (hc4 : ∀ R w, S 3 R w → ∃ A2, R 2 = .slice A2 512 512 ∧ Calls Try.prog 10 #[.pointer (some ⟨db, 0, none⟩), .int .i64 (m : Int), .slice A2 512 512] w fun e w' => ∃ v, e = .returned v ∧ S 4 (setR R 3 v) w')
    (hr1 : ∀ p R w, S p R w → 1 < p → R 1 = .int .i64 ea) (hr3 : ∀ p R w, S p R w → 3 < p → R 3 = .int .i64 eb)
    (hS : S 0 (resOf fu18C fun t => a0.eval (.tmp t)) wp.drew)
    (fin : ∀ a w, Fr [78, 79, 80, 81, 82, 83, 84, 85, 86, 87, 88, 89, 90, 91, 92, 93, 94, 95, 96, 97, 98, 99, 100, 101, 102, 103, 104, 105, 15, 16] a0 a → a.eval (.tmp 15) = .int .i64 ea → a.eval (.tmp 16) = .int .i64 eb → S 4 (resOf fu18C fun t => a.eval (.tmp t)) w → Q .normal a w) :
    (Code.region 18 opsFu18 true).wp Try.prog Q a0 wp := by
  have i1 : (i : Int) < (n : Int) := by omega
  have i2 : (0 : Int) ≤ (i : Int) := by omega
  refine region_inv (by kernel_rfl) [78, 79, 80, 81, 82, 83, 84, 85, 86, 87, 88, 89, 90, 91, 92, 93, 94, 95, 96, 97, 98, 99, 100, 101, 102, 103, 104, 105, 15, 16] (by kernel_rfl) (by kernel_rfl) (fun t ht => by simp at ht; omega) (GV (fu18Vals g o n cp da db i m ea eb x) fu18C S) (.start hS) ?_
    (fun L a w hf hall hG => fin a w hf (hG.val 24 28 15 _ rfl (hall 28 (by decide))) (hG.val 25 29 16 _ rfl (hall 29 (by decide))) (hG.fin (fun c hc => by simp [fu18C] at hc; rcases hc with rfl | rfl | rfl | rfl <;> exact hall _ (by decide))))
  clear hS fin
  intro ix oo ho L a w hfr hG hLi hdep hcl K hK
  have e0 : a.tmps[0]?.getD undef = .slice (some ⟨g, o, none⟩) n cp := by rw [← ev]; exact (hfr.same 0 (by decide)).trans in0
  have e9 : a.tmps[9]?.getD undef = .pointer (some ⟨da, 0, none⟩) := by rw [← ev]; exact (hfr.same 9 (by decide)).trans in9
  have e11 : a.tmps[11]?.getD undef = .pointer (some ⟨db, 0, none⟩) := by rw [← ev]; exact (hfr.same 11 (by decide)).trans in11
  have e14 : a.tmps[14]?.getD undef = .int .i64 (i : Int) := by rw [← ev]; exact (hfr.same 14 (by decide)).trans in14
  clear in0 in9 in11 in14
  match ix, ho with
  | 0, ho =>
    simp only [opsFu18, List.getElem?_toArray, List.getElem?_cons_zero, Option.some.injEq] at ho
    subst ho
    rw [if_pos (show Region.wanted _ _ = true from rfl)]
    have hfin := hK (.pointer (some ⟨da, 0, none⟩)) w (hG.quiet 0 0 78 _ rfl (by kernel_rfl) (by kernel_rfl))
    have HK := Lib.hid hfin
    clear hG hcl hdep hfr hK hfin hLi 
    go_simp
    exact HK.out
  | 1, ho =>
    simp only [opsFu18, List.getElem?_toArray, List.getElem?_cons_succ, List.getElem?_cons_zero, Option.some.injEq] at ho
    subst ho
    rw [if_pos (show Region.wanted _ _ = true from rfl)]
    have hfin := hK (.slice (some ⟨g, o, none⟩) n cp) w (hG.quiet 1 1 79 _ rfl (by kernel_rfl) (by kernel_rfl))
    have HK := Lib.hid hfin
    clear hG hcl hdep hfr hK hfin hLi 
    go_simp
    exact HK.out
  | 2, ho =>
    simp only [opsFu18, List.getElem?_toArray, List.getElem?_cons_succ, List.getElem?_cons_zero, Option.some.injEq] at ho
    subst ho
    rw [if_pos (show Region.wanted _ _ = true from rfl)]
    have hfin := hK (.int .i64 (i : Int)) w (hG.quiet 2 2 80 _ rfl (by kernel_rfl) (by kernel_rfl))
    have HK := Lib.hid hfin
    clear hG hcl hdep hfr hK hfin hLi 
    go_simp
    exact HK.out
  | 3, ho =>
    simp only [opsFu18, List.getElem?_toArray, List.getElem?_cons_succ, List.getElem?_cons_zero, Option.some.injEq] at ho
    subst ho
    have x79 : a.tmps[79]?.getD undef = .slice (some ⟨g, o, none⟩) n cp := by rw [← ev]; exact hG.val 1 1 79 _ rfl (hdep ⟨1, .data⟩ (by simp) rfl)
    have x80 : a.tmps[80]?.getD undef = .int .i64 (i : Int) := by rw [← ev]; exact hG.val 2 2 80 _ rfl (hdep ⟨2, .data⟩ (by simp) rfl)
    rw [if_pos (show Region.wanted _ _ = true from rfl)]
    have hfin := hK (.pointer (some ⟨g, o + i * 5, none⟩)) w (hG.quiet 3 3 81 _ rfl (by kernel_rfl) (by kernel_rfl))
    have HK := Lib.hid hfin
    clear hG hcl hdep hfr hK hfin hLi 
    go_simp
    exact HK.out
  | 4, ho =>
    simp only [opsFu18, List.getElem?_toArray, List.getElem?_cons_succ, List.getElem?_cons_zero, Option.some.injEq] at ho
    subst ho
    have x81 : a.tmps[81]?.getD undef = .pointer (some ⟨g, o + i * 5, none⟩) := by rw [← ev]; exact hG.val 3 3 81 _ rfl (hdep ⟨3, .data⟩ (by simp) rfl)
    rw [if_pos (show Region.wanted _ _ = true from rfl)]
    have hfin := hK (.pointer (some ⟨g, o + i * 5 + 1, none⟩)) w (hG.quiet 4 4 82 _ rfl (by kernel_rfl) (by kernel_rfl))
    have HK := Lib.hid hfin
    clear hG hcl hdep hfr hK hfin hLi 
    go_simp
    exact HK.out
  | 5, ho =>
    simp only [opsFu18, List.getElem?_toArray, List.getElem?_cons_succ, List.getElem?_cons_zero, Option.some.injEq] at ho
    subst ho
    have x82 : a.tmps[82]?.getD undef = .pointer (some ⟨g, o + i * 5 + 1, none⟩) := by rw [← ev]; exact hG.val 4 4 82 _ rfl (hdep ⟨4, .data⟩ (by simp) rfl)
    rw [if_pos (show Region.wanted _ _ = true from rfl)]
    obtain ⟨ph, hSp, hdone⟩ := hG.any
    have hfin := hK (.int .i64 x.at_) w (hG.quiet 5 5 83 _ rfl (by kernel_rfl) (by kernel_rfl))
    have HK := Lib.hid hfin
    generalize (resOf fu18C fun t => a.eval (.tmp t)) = R at *
    have hc := ((base _ _ _ hSp).cell (p := ⟨g, o + i * 5 + 1, none⟩) hg).trans hx.at_
    clear hc1 hc2 hc3 hc4 hr1 hr3 base hx
    clear hSp hdone
    clear hG hcl hdep hfr hK hfin hLi 
    go_simp
    exact HK.out
  | 6, ho =>
    simp only [opsFu18, List.getElem?_toArray, List.getElem?_cons_succ, List.getElem?_cons_zero, Option.some.injEq] at ho
    subst ho
    have x83 : a.tmps[83]?.getD undef = .int .i64 x.at_ := by rw [← ev]; exact hG.val 5 5 83 _ rfl (hdep ⟨5, .data⟩ (by simp) rfl)
    rw [if_pos (show Region.wanted _ _ = true from rfl)]
    have hfin := hK (.int .i64 (m : Int)) w (hG.quiet 6 6 84 _ rfl (by kernel_rfl) (by kernel_rfl))
    have HK := Lib.hid hfin
    clear hG hcl hdep hfr hK hfin hLi 
    go_simp
    exact HK.out
  | 7, ho =>
    simp only [opsFu18, List.getElem?_toArray, List.getElem?_cons_succ, List.getElem?_cons_zero, Option.some.injEq] at ho
    subst ho
    rw [if_pos (show Region.wanted _ _ = true from rfl)]
    have hfin := hK (.slice (some ⟨g, o, none⟩) n cp) w (hG.quiet 7 7 85 _ rfl (by kernel_rfl) (by kernel_rfl))
    have HK := Lib.hid hfin
    clear hG hcl hdep hfr hK hfin hLi 
    go_simp
    exact HK.out
  | 8, ho =>
    simp only [opsFu18, List.getElem?_toArray, List.getElem?_cons_succ, List.getElem?_cons_zero, Option.some.injEq] at ho
    subst ho
    rw [if_pos (show Region.wanted _ _ = true from rfl)]
    have hfin := hK (.int .i64 (i : Int)) w (hG.quiet 8 8 86 _ rfl (by kernel_rfl) (by kernel_rfl))
    have HK := Lib.hid hfin
    clear hG hcl hdep hfr hK hfin hLi 
    go_simp
    exact HK.out
  | 9, ho =>
    simp only [opsFu18, List.getElem?_toArray, List.getElem?_cons_succ, List.getElem?_cons_zero, Option.some.injEq] at ho
    subst ho
    have x85 : a.tmps[85]?.getD undef = .slice (some ⟨g, o, none⟩) n cp := by rw [← ev]; exact hG.val 7 7 85 _ rfl (hdep ⟨7, .data⟩ (by simp) rfl)
    have x86 : a.tmps[86]?.getD undef = .int .i64 (i : Int) := by rw [← ev]; exact hG.val 8 8 86 _ rfl (hdep ⟨8, .data⟩ (by simp) rfl)
    rw [if_pos (show Region.wanted _ _ = true from rfl)]
    have hfin := hK (.pointer (some ⟨g, o + i * 5, none⟩)) w (hG.quiet 9 9 87 _ rfl (by kernel_rfl) (by kernel_rfl))
    have HK := Lib.hid hfin
    clear hG hcl hdep hfr hK hfin hLi 
    go_simp
    exact HK.out
  | 10, ho =>
    simp only [opsFu18, List.getElem?_toArray, List.getElem?_cons_succ, List.getElem?_cons_zero, Option.some.injEq] at ho
    subst ho
    have x87 : a.tmps[87]?.getD undef = .pointer (some ⟨g, o + i * 5, none⟩) := by rw [← ev]; exact hG.val 9 9 87 _ rfl (hdep ⟨9, .data⟩ (by simp) rfl)
    rw [if_pos (show Region.wanted _ _ = true from rfl)]
    have hfin := hK (.pointer (some ⟨g, o + i * 5 + 3, none⟩)) w (hG.quiet 10 10 88 _ rfl (by kernel_rfl) (by kernel_rfl))
    have HK := Lib.hid hfin
    clear hG hcl hdep hfr hK hfin hLi 
    go_simp
    exact HK.out
  | 11, ho =>
    simp only [opsFu18, List.getElem?_toArray, List.getElem?_cons_succ, List.getElem?_cons_zero, Option.some.injEq] at ho
    subst ho
    have x88 : a.tmps[88]?.getD undef = .pointer (some ⟨g, o + i * 5 + 3, none⟩) := by rw [← ev]; exact hG.val 10 10 88 _ rfl (hdep ⟨10, .data⟩ (by simp) rfl)
    rw [if_pos (show Region.wanted _ _ = true from rfl)]
    obtain ⟨ph, hSp, hdone⟩ := hG.any
    have hfin := hK (.int .u8 (x.c.toNat : Int)) w (hG.quiet 11 11 89 _ rfl (by kernel_rfl) (by kernel_rfl))
    have HK := Lib.hid hfin
    generalize (resOf fu18C fun t => a.eval (.tmp t)) = R at *
    have hc := ((base _ _ _ hSp).cell (p := ⟨g, o + i * 5 + 3, none⟩) hg).trans hx.c
    clear hc1 hc2 hc3 hc4 hr1 hr3 base hx
    clear hSp hdone
    clear hG hcl hdep hfr hK hfin hLi 
    go_simp
    exact HK.out
  | 12, ho =>
    simp only [opsFu18, List.getElem?_toArray, List.getElem?_cons_succ, List.getElem?_cons_zero, Option.some.injEq] at ho
    subst ho
    have x89 : a.tmps[89]?.getD undef = .int .u8 (x.c.toNat : Int) := by rw [← ev]; exact hG.val 11 11 89 _ rfl (hdep ⟨11, .data⟩ (by simp) rfl)
    rw [if_pos (show Region.wanted _ _ = true from rfl)]
    have hSj := hG.at 0 (12, 90) rfl hLi (fun c h0 hc => absurd h0 (by decide))
    have hfin := fun v w' hs => hK v w' (hG.call 0 (12, 90) rfl hLi (fun c h0 hc => absurd h0 (by decide)) (by kernel_rfl) v w' hs)
    have HK := Lib.hid hfin
    generalize (resOf fu18C fun t => a.eval (.tmp t)) = R at *
    clear hG hcl hdep hfr hK hfin hLi
    have hc := Lib.hid (hc1 _ _ hSj)
    clear hSj hc1 hc2 hc3 hc4 hr1 hr3 base hx
    go_simp
    go_at_call 11
    refine hc.out.mono ?_
    rintro e w' ⟨v, rfl, hs⟩
    exact HK.out v w' hs
  | 13, ho =>
    simp only [opsFu18, List.getElem?_toArray, List.getElem?_cons_succ, List.getElem?_cons_zero, Option.some.injEq] at ho
    subst ho
    have x78 : a.tmps[78]?.getD undef = .pointer (some ⟨da, 0, none⟩) := by rw [← ev]; exact hG.val 0 0 78 _ rfl (hdep ⟨0, .data⟩ (by simp) rfl)
    have x84 : a.tmps[84]?.getD undef = .int .i64 (m : Int) := by rw [← ev]; exact hG.val 6 6 84 _ rfl (hdep ⟨6, .data⟩ (by simp) rfl)
    rw [if_pos (show Region.wanted _ _ = true from rfl)]
    have hSj := hG.at 1 (13, 91) rfl hLi (fun c h0 hc => by simp [fu18C] at hc; subst hc; exact hdep ⟨12, .data⟩ (by simp) rfl)
    have r90 : a.tmps[90]?.getD undef = resOf fu18C (fun t => a.eval (.tmp t)) 0 := by rw [← ev]; exact (resOf_at (C := fu18C) (j := 0) rfl a).symm
    have hfin := fun v w' hs => hK v w' (hG.call 1 (13, 91) rfl hLi (fun c h0 hc => by simp [fu18C] at hc; subst hc; exact hdep ⟨12, .data⟩ (by simp) rfl) (by kernel_rfl) v w' hs)
    have HK := Lib.hid hfin
    generalize (resOf fu18C fun t => a.eval (.tmp t)) = R at *
    clear hG hcl hdep hfr hK hfin hLi
    obtain ⟨A2, hr, hcc⟩ := hc2 _ _ hSj
    rw [hr] at r90
    have hc := Lib.hid hcc
    clear hSj hc1 hc2 hc3 hc4 hr1 hr3 base hx hr hcc
    go_simp
    go_at_call 10
    refine hc.out.mono ?_
    rintro e w' ⟨v, rfl, hs⟩
    exact HK.out v w' hs
  | 14, ho =>
    simp only [opsFu18, List.getElem?_toArray, List.getElem?_cons_succ, List.getElem?_cons_zero, Option.some.injEq] at ho
    subst ho
    rw [if_pos (show Region.wanted _ _ = true from rfl)]
    have hfin := hK (.pointer (some ⟨db, 0, none⟩)) w (hG.quiet 12 14 92 _ rfl (by kernel_rfl) (by kernel_rfl))
    have HK := Lib.hid hfin
    clear hG hcl hdep hfr hK hfin hLi 
    go_simp
    exact HK.out
  | 15, ho =>
    simp only [opsFu18, List.getElem?_toArray, List.getElem?_cons_succ, List.getElem?_cons_zero, Option.some.injEq] at ho
    subst ho
    rw [if_pos (show Region.wanted _ _ = true from rfl)]
    have hfin := hK (.slice (some ⟨g, o, none⟩) n cp) w (hG.quiet 13 15 93 _ rfl (by kernel_rfl) (by kernel_rfl))
    have HK := Lib.hid hfin
    clear hG hcl hdep hfr hK hfin hLi 
    go_simp
    exact HK.out
  | 16, ho =>
    simp only [opsFu18, List.getElem?_toArray, List.getElem?_cons_succ, List.getElem?_cons_zero, Option.some.injEq] at ho
    subst ho
    rw [if_pos (show Region.wanted _ _ = true from rfl)]
    have hfin := hK (.int .i64 (i : Int)) w (hG.quiet 14 16 94 _ rfl (by kernel_rfl) (by kernel_rfl))
    have HK := Lib.hid hfin
    clear hG hcl hdep hfr hK hfin hLi 
    go_simp
    exact HK.out
  | 17, ho =>
    simp only [opsFu18, List.getElem?_toArray, List.getElem?_cons_succ, List.getElem?_cons_zero, Option.some.injEq] at ho
    subst ho
    have x93 : a.tmps[93]?.getD undef = .slice (some ⟨g, o, none⟩) n cp := by rw [← ev]; exact hG.val 13 15 93 _ rfl (hdep ⟨15, .data⟩ (by simp) rfl)
    have x94 : a.tmps[94]?.getD undef = .int .i64 (i : Int) := by rw [← ev]; exact hG.val 14 16 94 _ rfl (hdep ⟨16, .data⟩ (by simp) rfl)
    rw [if_pos (show Region.wanted _ _ = true from rfl)]
    have hfin := hK (.pointer (some ⟨g, o + i * 5, none⟩)) w (hG.quiet 15 17 95 _ rfl (by kernel_rfl) (by kernel_rfl))
    have HK := Lib.hid hfin
    clear hG hcl hdep hfr hK hfin hLi 
    go_simp
    exact HK.out
  | 18, ho =>
    simp only [opsFu18, List.getElem?_toArray, List.getElem?_cons_succ, List.getElem?_cons_zero, Option.some.injEq] at ho
    subst ho
    have x95 : a.tmps[95]?.getD undef = .pointer (some ⟨g, o + i * 5, none⟩) := by rw [← ev]; exact hG.val 15 17 95 _ rfl (hdep ⟨17, .data⟩ (by simp) rfl)
    rw [if_pos (show Region.wanted _ _ = true from rfl)]
    have hfin := hK (.pointer (some ⟨g, o + i * 5 + 1, none⟩)) w (hG.quiet 16 18 96 _ rfl (by kernel_rfl) (by kernel_rfl))
    have HK := Lib.hid hfin
    clear hG hcl hdep hfr hK hfin hLi 
    go_simp
    exact HK.out
  | 19, ho =>
    simp only [opsFu18, List.getElem?_toArray, List.getElem?_cons_succ, List.getElem?_cons_zero, Option.some.injEq] at ho
    subst ho
    have x96 : a.tmps[96]?.getD undef = .pointer (some ⟨g, o + i * 5 + 1, none⟩) := by rw [← ev]; exact hG.val 16 18 96 _ rfl (hdep ⟨18, .data⟩ (by simp) rfl)
    rw [if_pos (show Region.wanted _ _ = true from rfl)]
    obtain ⟨ph, hSp, hdone⟩ := hG.any
    have hfin := hK (.int .i64 x.at_) w (hG.quiet 17 19 97 _ rfl (by kernel_rfl) (by kernel_rfl))
    have HK := Lib.hid hfin
    generalize (resOf fu18C fun t => a.eval (.tmp t)) = R at *
    have hc := ((base _ _ _ hSp).cell (p := ⟨g, o + i * 5 + 1, none⟩) hg).trans hx.at_
    clear hc1 hc2 hc3 hc4 hr1 hr3 base hx
    clear hSp hdone
    clear hG hcl hdep hfr hK hfin hLi 
    go_simp
    exact HK.out
  | 20, ho =>
    simp only [opsFu18, List.getElem?_toArray, List.getElem?_cons_succ, List.getElem?_cons_zero, Option.some.injEq] at ho
    subst ho
    have x97 : a.tmps[97]?.getD undef = .int .i64 x.at_ := by rw [← ev]; exact hG.val 17 19 97 _ rfl (hdep ⟨19, .data⟩ (by simp) rfl)
    rw [if_pos (show Region.wanted _ _ = true from rfl)]
    have hfin := hK (.int .i64 (m : Int)) w (hG.quiet 18 20 98 _ rfl (by kernel_rfl) (by kernel_rfl))
    have HK := Lib.hid hfin
    clear hG hcl hdep hfr hK hfin hLi 
    go_simp
    exact HK.out
  | 21, ho =>
    simp only [opsFu18, List.getElem?_toArray, List.getElem?_cons_succ, List.getElem?_cons_zero, Option.some.injEq] at ho
    subst ho
    rw [if_pos (show Region.wanted _ _ = true from rfl)]
    have hfin := hK (.slice (some ⟨g, o, none⟩) n cp) w (hG.quiet 19 21 99 _ rfl (by kernel_rfl) (by kernel_rfl))
    have HK := Lib.hid hfin
    clear hG hcl hdep hfr hK hfin hLi 
    go_simp
    exact HK.out
  | 22, ho =>
    simp only [opsFu18, List.getElem?_toArray, List.getElem?_cons_succ, List.getElem?_cons_zero, Option.some.injEq] at ho
    subst ho
    rw [if_pos (show Region.wanted _ _ = true from rfl)]
    have hfin := hK (.int .i64 (i : Int)) w (hG.quiet 20 22 100 _ rfl (by kernel_rfl) (by kernel_rfl))
    have HK := Lib.hid hfin
    clear hG hcl hdep hfr hK hfin hLi 
    go_simp
    exact HK.out
  | 23, ho =>
    simp only [opsFu18, List.getElem?_toArray, List.getElem?_cons_succ, List.getElem?_cons_zero, Option.some.injEq] at ho
    subst ho
    have x99 : a.tmps[99]?.getD undef = .slice (some ⟨g, o, none⟩) n cp := by rw [← ev]; exact hG.val 19 21 99 _ rfl (hdep ⟨21, .data⟩ (by simp) rfl)
    have x100 : a.tmps[100]?.getD undef = .int .i64 (i : Int) := by rw [← ev]; exact hG.val 20 22 100 _ rfl (hdep ⟨22, .data⟩ (by simp) rfl)
    rw [if_pos (show Region.wanted _ _ = true from rfl)]
    have hfin := hK (.pointer (some ⟨g, o + i * 5, none⟩)) w (hG.quiet 21 23 101 _ rfl (by kernel_rfl) (by kernel_rfl))
    have HK := Lib.hid hfin
    clear hG hcl hdep hfr hK hfin hLi 
    go_simp
    exact HK.out
  | 24, ho =>
    simp only [opsFu18, List.getElem?_toArray, List.getElem?_cons_succ, List.getElem?_cons_zero, Option.some.injEq] at ho
    subst ho
    have x101 : a.tmps[101]?.getD undef = .pointer (some ⟨g, o + i * 5, none⟩) := by rw [← ev]; exact hG.val 21 23 101 _ rfl (hdep ⟨23, .data⟩ (by simp) rfl)
    rw [if_pos (show Region.wanted _ _ = true from rfl)]
    have hfin := hK (.pointer (some ⟨g, o + i * 5 + 3, none⟩)) w (hG.quiet 22 24 102 _ rfl (by kernel_rfl) (by kernel_rfl))
    have HK := Lib.hid hfin
    clear hG hcl hdep hfr hK hfin hLi 
    go_simp
    exact HK.out
  | 25, ho =>
    simp only [opsFu18, List.getElem?_toArray, List.getElem?_cons_succ, List.getElem?_cons_zero, Option.some.injEq] at ho
    subst ho
    have x102 : a.tmps[102]?.getD undef = .pointer (some ⟨g, o + i * 5 + 3, none⟩) := by rw [← ev]; exact hG.val 22 24 102 _ rfl (hdep ⟨24, .data⟩ (by simp) rfl)
    rw [if_pos (show Region.wanted _ _ = true from rfl)]
    obtain ⟨ph, hSp, hdone⟩ := hG.any
    have hfin := hK (.int .u8 (x.c.toNat : Int)) w (hG.quiet 23 25 103 _ rfl (by kernel_rfl) (by kernel_rfl))
    have HK := Lib.hid hfin
    generalize (resOf fu18C fun t => a.eval (.tmp t)) = R at *
    have hc := ((base _ _ _ hSp).cell (p := ⟨g, o + i * 5 + 3, none⟩) hg).trans hx.c
    clear hc1 hc2 hc3 hc4 hr1 hr3 base hx
    clear hSp hdone
    clear hG hcl hdep hfr hK hfin hLi 
    go_simp
    exact HK.out
  | 26, ho =>
    simp only [opsFu18, List.getElem?_toArray, List.getElem?_cons_succ, List.getElem?_cons_zero, Option.some.injEq] at ho
    subst ho
    have x103 : a.tmps[103]?.getD undef = .int .u8 (x.c.toNat : Int) := by rw [← ev]; exact hG.val 23 25 103 _ rfl (hdep ⟨25, .data⟩ (by simp) rfl)
    rw [if_pos (show Region.wanted _ _ = true from rfl)]
    have hSj := hG.at 2 (26, 104) rfl hLi (fun c h0 hc => by simp [fu18C] at hc; subst hc; exact hdep ⟨13, .chain⟩ (by simp) rfl)
    have hfin := fun v w' hs => hK v w' (hG.call 2 (26, 104) rfl hLi (fun c h0 hc => by simp [fu18C] at hc; subst hc; exact hdep ⟨13, .chain⟩ (by simp) rfl) (by kernel_rfl) v w' hs)
    have HK := Lib.hid hfin
    generalize (resOf fu18C fun t => a.eval (.tmp t)) = R at *
    clear hG hcl hdep hfr hK hfin hLi
    have hc := Lib.hid (hc3 _ _ hSj)
    clear hSj hc1 hc2 hc3 hc4 hr1 hr3 base hx
    go_simp
    go_at_call 11
    refine hc.out.mono ?_
    rintro e w' ⟨v, rfl, hs⟩
    exact HK.out v w' hs
  | 27, ho =>
    simp only [opsFu18, List.getElem?_toArray, List.getElem?_cons_succ, List.getElem?_cons_zero, Option.some.injEq] at ho
    subst ho
    have x92 : a.tmps[92]?.getD undef = .pointer (some ⟨db, 0, none⟩) := by rw [← ev]; exact hG.val 12 14 92 _ rfl (hdep ⟨14, .data⟩ (by simp) rfl)
    have x98 : a.tmps[98]?.getD undef = .int .i64 (m : Int) := by rw [← ev]; exact hG.val 18 20 98 _ rfl (hdep ⟨20, .data⟩ (by simp) rfl)
    rw [if_pos (show Region.wanted _ _ = true from rfl)]
    have hSj := hG.at 3 (27, 105) rfl hLi (fun c h0 hc => by simp [fu18C] at hc; subst hc; exact hdep ⟨26, .data⟩ (by simp) rfl)
    have r104 : a.tmps[104]?.getD undef = resOf fu18C (fun t => a.eval (.tmp t)) 2 := by rw [← ev]; exact (resOf_at (C := fu18C) (j := 2) rfl a).symm
    have hfin := fun v w' hs => hK v w' (hG.call 3 (27, 105) rfl hLi (fun c h0 hc => by simp [fu18C] at hc; subst hc; exact hdep ⟨26, .data⟩ (by simp) rfl) (by kernel_rfl) v w' hs)
    have HK := Lib.hid hfin
    generalize (resOf fu18C fun t => a.eval (.tmp t)) = R at *
    clear hG hcl hdep hfr hK hfin hLi
    obtain ⟨A2, hr, hcc⟩ := hc4 _ _ hSj
    rw [hr] at r104
    have hc := Lib.hid hcc
    clear hSj hc1 hc2 hc3 hc4 hr1 hr3 base hx hr hcc
    go_simp
    go_at_call 10
    refine hc.out.mono ?_
    rintro e w' ⟨v, rfl, hs⟩
    exact HK.out v w' hs
  | 28, ho =>
    simp only [opsFu18, List.getElem?_toArray, List.getElem?_cons_succ, List.getElem?_cons_zero, Option.some.injEq] at ho
    subst ho
    rw [if_pos (show Region.wanted _ _ = true from rfl)]
    obtain ⟨ph, hSp, hdone⟩ := hG.any
    have hd91 : 1 < ph := hdone 1 (13, 91) rfl (hdep ⟨13, .data⟩ (by simp) rfl)
    have r91 : a.tmps[91]?.getD undef = resOf fu18C (fun t => a.eval (.tmp t)) 1 := by rw [← ev]; exact (resOf_at (C := fu18C) (j := 1) rfl a).symm
    have hfin := hK (.int .i64 ea) w (hG.quiet 24 28 15 _ rfl (by kernel_rfl) (by kernel_rfl))
    have HK := Lib.hid hfin
    generalize (resOf fu18C fun t => a.eval (.tmp t)) = R at *
    have q1 := hr1 _ _ _ hSp hd91
    rw [q1] at r91
    clear hc1 hc2 hc3 hc4 hr1 hr3 base hx q1 hd91
    clear hSp hdone
    clear hG hcl hdep hfr hK hfin hLi 
    go_simp
    exact HK.out
  | 29, ho =>
    simp only [opsFu18, List.getElem?_toArray, List.getElem?_cons_succ, List.getElem?_cons_zero, Option.some.injEq] at ho
    subst ho
    rw [if_pos (show Region.wanted _ _ = true from rfl)]
    obtain ⟨ph, hSp, hdone⟩ := hG.any
    have hd105 : 3 < ph := hdone 3 (27, 105) rfl (hdep ⟨27, .data⟩ (by simp) rfl)
    have r105 : a.tmps[105]?.getD undef = resOf fu18C (fun t => a.eval (.tmp t)) 3 := by rw [← ev]; exact (resOf_at (C := fu18C) (j := 3) rfl a).symm
    have hfin := hK (.int .i64 eb) w (hG.quiet 25 29 16 _ rfl (by kernel_rfl) (by kernel_rfl))
    have HK := Lib.hid hfin
    generalize (resOf fu18C fun t => a.eval (.tmp t)) = R at *
    have q1 := hr3 _ _ _ hSp hd105
    rw [q1] at r105
    clear hc1 hc2 hc3 hc4 hr1 hr3 base hx q1 hd105
    clear hSp hdone
    clear hG hcl hdep hfr hK hfin hLi 
    go_simp
    exact HK.out
  | n + 30, ho => exact absurd (Array.getElem?_eq_some_iff.1 ho).1 (by show ¬ n + 30 < 30; omega)
end Go.Proofs.Ytnbcdidenmakiaa
