/- The table's find: the search in its block. -/
import Derived.Test.YtgpkdnnlgafenaaVals
import Derived.Test.YtgpkdnnlgafenaaAppend
import Derived.WalkKit
import Derived.WalkSpells
import Derived.WalkLawsBesides
import Derived.Lib.Hide
import Derived.IntWalk
namespace Go.Proofs.Ytgpkdnnlgafenaa
open Go.RowKit
set_option linter.unusedVariables false
set_option linter.unusedSimpArgs false

def opsFi5 : Array Oper := #[
  { dst := some 25, op := Op.load 23 (Operand.tmp 2), type := 23, pos := "kv.go:213", after := #[], guard := none },
  { dst := some 26, op := Op.nilCheck (Operand.tmp 25), type := 0, pos := "kv.go:213", after := #[{ on := 0, ground := Ground.data }], guard := none },
  { dst := some 27, op := Op.fieldAddr 67 (Operand.tmp 26) 0, type := 0, pos := "kv.go:213", after := #[{ on := 1, ground := Ground.data }], guard := none },
  { dst := some 28, op := Op.load 65 (Operand.tmp 27), type := 65, pos := "kv.go:213", after := #[{ on := 2, ground := Ground.data }], guard := none },
  { dst := some 29, op := Op.move (Operand.tmp 4), type := 3, pos := "kv.go:213", after := #[], guard := none },
  { dst := some 30, op := Op.indexAddr 65 (Operand.tmp 28) (Operand.tmp 29), type := 0, pos := "kv.go:213", after := #[{ on := 3, ground := Ground.data }, { on := 4, ground := Ground.data }], guard := none },
  { dst := some 31, op := Op.load 37 (Operand.tmp 30), type := 37, pos := "kv.go:213", after := #[{ on := 5, ground := Ground.data }], guard := none },
  { dst := some 32, op := Op.load 9 (Operand.tmp 3), type := 9, pos := "kv.go:213", after := #[], guard := none },
  { dst := some 33, op := Op.call { callee := Callee.value (Operand.func 50), args := #[Operand.tmp 31, Operand.tmp 32, Operand.func 51], argTypes := #[37, 9, 101] }, type := 78, pos := "kv.go:213", after := #[{ on := 6, ground := Ground.data }, { on := 7, ground := Ground.data }], guard := none },
  { dst := some 24, op := Op.move (Operand.tmp 33), type := 78, pos := "kv.go:213", after := #[{ on := 8, ground := Ground.data }], guard := none },
  { dst := some 34, op := Op.extract (Operand.tmp 24) 0, type := 3, pos := "kv.go:213", after := #[{ on := 9, ground := Ground.data }], guard := none },
  { dst := some 35, op := Op.extract (Operand.tmp 24) 1, type := 4, pos := "kv.go:213", after := #[{ on := 9, ground := Ground.data }, { on := 12, ground := Ground.gcOnly Departure.lateStores }], guard := none },
  { dst := some 5, op := Op.assign (Operand.tmp 34), type := 3, pos := "kv.go:213", after := #[{ on := 10, ground := Ground.data }, { on := 8, ground := Ground.chain }, { on := 0, ground := Ground.phase }, { on := 1, ground := Ground.phase }, { on := 2, ground := Ground.phase }, { on := 3, ground := Ground.phase }, { on := 4, ground := Ground.phase }, { on := 5, ground := Ground.phase }, { on := 6, ground := Ground.phase }, { on := 7, ground := Ground.phase }, { on := 8, ground := Ground.phase }, { on := 9, ground := Ground.phase }, { on := 10, ground := Ground.phase }, { on := 11, ground := Ground.textOnly Departure.lateStores }], guard := none },
  { dst := some 6, op := Op.assign (Operand.tmp 35), type := 4, pos := "kv.go:213", after := #[{ on := 11, ground := Ground.data }, { on := 12, ground := Ground.chain }, { on := 0, ground := Ground.phase }, { on := 1, ground := Ground.phase }, { on := 2, ground := Ground.phase }, { on := 3, ground := Ground.phase }, { on := 4, ground := Ground.phase }, { on := 5, ground := Ground.phase }, { on := 6, ground := Ground.phase }, { on := 7, ground := Ground.phase }, { on := 8, ground := Ground.phase }, { on := 9, ground := Ground.phase }, { on := 10, ground := Ground.phase }, { on := 11, ground := Ground.phase }, { on := 12, ground := Ground.phase }], guard := none }]

def fi5Vals (bt bk t r c1 g c2 n : Nat) (key : ByteArray) (P : Int) (H : Bool) : List (Nat × Nat × Value) := [(0, 25, .pointer (some ⟨t, 0, none⟩)), (1, 26, .pointer (some ⟨t, 0, none⟩)), (2, 27, .pointer (some ⟨t, 0, none⟩)), (3, 28, .slice (some ⟨r, 0, none⟩) 1 c1), (4, 29, .int .i64 0), (5, 30, .pointer (some ⟨r, 0, none⟩)), (6, 31, .slice (some ⟨g, 0, none⟩) n c2), (7, 32, .string key), (9, 24, .tuple #[.int .i64 P, .bool H]), (10, 34, .int .i64 P), (11, 35, .bool H), (12, 5, .int .i64 P), (13, 6, .bool H)]
def fi5C : List (Nat × Nat) := [(8, 33)]

set_option maxHeartbeats 1600000 in
set_option maxRecDepth 100000 in
theorem fi5 {Q : Exit → Act → World → Prop} {a0 : Act} {wp : World} (bt bk t r c1 g c2 n : Nat) (key : ByteArray) (P : Int) (H : Bool) (S : Nat → (Nat → Value) → World → Prop)
    (hsz : 35 < a0.tmps.size) (in2 : a0.eval (.tmp 2) = .pointer (some ⟨bt, 0, none⟩)) (in3 : a0.eval (.tmp 3) = .pointer (some ⟨bk, 0, none⟩)) (in4 : a0.eval (.tmp 4) = .int .i64 0)
    (hcell0 : ∀ p R w, S p R w → w.cell? ⟨bt, 0, none⟩ = some (.pointer (some ⟨t, 0, none⟩)) ∧ w.cell? ⟨bk, 0, none⟩ = some (.string key) ∧ w.cell? ⟨t, 0, none⟩ = some (.slice (some ⟨r, 0, none⟩) 1 c1) ∧ w.cell? ⟨r, 0, none⟩ = some (.slice (some ⟨g, 0, none⟩) n c2))
    (hb1 : ∀ R w, S 0 R w → Calls Try.prog 50 #[.slice (some ⟨g, 0, none⟩) n c2, .string key, .func (.func 51) #[] #[]] w fun e w' => ∃ v, e = .returned v ∧ S 1 (setR R 0 v) w')
    (hr1 : ∀ p R w, S p R w → 0 < p → R 0 = .tuple #[.int .i64 P, .bool H])
    (hS : S 0 (resOf fi5C fun t => a0.eval (.tmp t)) wp.drew)
    (fin : ∀ a w, Fr [25, 26, 27, 28, 29, 30, 31, 32, 33, 24, 34, 35, 5, 6] a0 a → a.eval (.tmp 5) = .int .i64 P → a.eval (.tmp 6) = .bool H → S 1 (resOf fi5C fun t => a.eval (.tmp t)) w → Q .normal a w) :
    (Code.region 5 opsFi5 true).wp Try.prog Q a0 wp := by
  refine region_inv (by kernel_rfl) [25, 26, 27, 28, 29, 30, 31, 32, 33, 24, 34, 35, 5, 6] (by kernel_rfl) (by kernel_rfl) (fun t ht => by simp at ht; omega) (GV (fi5Vals bt bk t r c1 g c2 n key P H) fi5C S) (.start hS) ?_
    (fun L a w hf hall hG => fin a w hf (hG.val 11 12 5 _ rfl (hall 12 (by decide))) (hG.val 12 13 6 _ rfl (hall 13 (by decide))) (hG.fin (fun c hc => by simp [fi5C] at hc; subst hc; exact hall _ (by decide))))
  clear hS fin
  intro ix oo ho L a w hfr hG hLi hdep hcl K hK
  have e2 : a.tmps[2]?.getD undef = .pointer (some ⟨bt, 0, none⟩) := by rw [← ev]; exact (hfr.same 2 (by decide)).trans in2
  have e3 : a.tmps[3]?.getD undef = .pointer (some ⟨bk, 0, none⟩) := by rw [← ev]; exact (hfr.same 3 (by decide)).trans in3
  have e4 : a.tmps[4]?.getD undef = .int .i64 0 := by rw [← ev]; exact (hfr.same 4 (by decide)).trans in4
  clear in2 in3 in4
  match ix, ho with
  | 0, ho =>
    simp only [opsFi5, List.getElem?_toArray, List.getElem?_cons_zero, Option.some.injEq] at ho
    subst ho
    rw [if_pos (show Region.wanted _ _ = true from rfl)]
    obtain ⟨ph, hSp, hdone⟩ := hG.any
    have hfin := hK (.pointer (some ⟨t, 0, none⟩)) w (hG.quiet 0 0 25 _ rfl (by kernel_rfl) (by kernel_rfl))
    have HK := Lib.hid hfin
    generalize (resOf fi5C fun t => a.eval (.tmp t)) = R at *
    obtain ⟨k1, k2, k3, k4⟩ := hcell0 _ _ _ hSp
    clear hcell0 hb1 hr1 k2 k3 k4
    clear hSp hdone
    clear hG hcl hdep hfr hK hfin hLi 
    go_simp
    exact HK.out
  | 1, ho =>
    simp only [opsFi5, List.getElem?_toArray, List.getElem?_cons_succ, List.getElem?_cons_zero, Option.some.injEq] at ho
    subst ho
    have x25 : a.tmps[25]?.getD undef = .pointer (some ⟨t, 0, none⟩) := by rw [← ev]; exact hG.val 0 0 25 _ rfl (hdep ⟨0, .data⟩ (by simp) rfl)
    rw [if_pos (show Region.wanted _ _ = true from rfl)]
    have hfin := hK (.pointer (some ⟨t, 0, none⟩)) w (hG.quiet 1 1 26 _ rfl (by kernel_rfl) (by kernel_rfl))
    have HK := Lib.hid hfin
    clear hG hcl hdep hfr hK hfin hLi 
    go_simp
    exact HK.out
  | 2, ho =>
    simp only [opsFi5, List.getElem?_toArray, List.getElem?_cons_succ, List.getElem?_cons_zero, Option.some.injEq] at ho
    subst ho
    have x26 : a.tmps[26]?.getD undef = .pointer (some ⟨t, 0, none⟩) := by rw [← ev]; exact hG.val 1 1 26 _ rfl (hdep ⟨1, .data⟩ (by simp) rfl)
    rw [if_pos (show Region.wanted _ _ = true from rfl)]
    have hfin := hK (.pointer (some ⟨t, 0, none⟩)) w (hG.quiet 2 2 27 _ rfl (by kernel_rfl) (by kernel_rfl))
    have HK := Lib.hid hfin
    clear hG hcl hdep hfr hK hfin hLi 
    go_simp
    exact HK.out
  | 3, ho =>
    simp only [opsFi5, List.getElem?_toArray, List.getElem?_cons_succ, List.getElem?_cons_zero, Option.some.injEq] at ho
    subst ho
    have x27 : a.tmps[27]?.getD undef = .pointer (some ⟨t, 0, none⟩) := by rw [← ev]; exact hG.val 2 2 27 _ rfl (hdep ⟨2, .data⟩ (by simp) rfl)
    rw [if_pos (show Region.wanted _ _ = true from rfl)]
    obtain ⟨ph, hSp, hdone⟩ := hG.any
    have hfin := hK (.slice (some ⟨r, 0, none⟩) 1 c1) w (hG.quiet 3 3 28 _ rfl (by kernel_rfl) (by kernel_rfl))
    have HK := Lib.hid hfin
    generalize (resOf fi5C fun t => a.eval (.tmp t)) = R at *
    obtain ⟨k1, k2, k3, k4⟩ := hcell0 _ _ _ hSp
    clear hcell0 hb1 hr1 k1 k2 k4
    clear hSp hdone
    clear hG hcl hdep hfr hK hfin hLi 
    go_simp
    exact HK.out
  | 4, ho =>
    simp only [opsFi5, List.getElem?_toArray, List.getElem?_cons_succ, List.getElem?_cons_zero, Option.some.injEq] at ho
    subst ho
    rw [if_pos (show Region.wanted _ _ = true from rfl)]
    have hfin := hK (.int .i64 0) w (hG.quiet 4 4 29 _ rfl (by kernel_rfl) (by kernel_rfl))
    have HK := Lib.hid hfin
    clear hG hcl hdep hfr hK hfin hLi 
    go_simp
    exact HK.out
  | 5, ho =>
    simp only [opsFi5, List.getElem?_toArray, List.getElem?_cons_succ, List.getElem?_cons_zero, Option.some.injEq] at ho
    subst ho
    have x28 : a.tmps[28]?.getD undef = .slice (some ⟨r, 0, none⟩) 1 c1 := by rw [← ev]; exact hG.val 3 3 28 _ rfl (hdep ⟨3, .data⟩ (by simp) rfl)
    have x29 : a.tmps[29]?.getD undef = .int .i64 0 := by rw [← ev]; exact hG.val 4 4 29 _ rfl (hdep ⟨4, .data⟩ (by simp) rfl)
    rw [if_pos (show Region.wanted _ _ = true from rfl)]
    have hfin := hK (.pointer (some ⟨r, 0, none⟩)) w (hG.quiet 5 5 30 _ rfl (by kernel_rfl) (by kernel_rfl))
    have HK := Lib.hid hfin
    clear hG hcl hdep hfr hK hfin hLi 
    go_simp
    exact HK.out
  | 6, ho =>
    simp only [opsFi5, List.getElem?_toArray, List.getElem?_cons_succ, List.getElem?_cons_zero, Option.some.injEq] at ho
    subst ho
    have x30 : a.tmps[30]?.getD undef = .pointer (some ⟨r, 0, none⟩) := by rw [← ev]; exact hG.val 5 5 30 _ rfl (hdep ⟨5, .data⟩ (by simp) rfl)
    rw [if_pos (show Region.wanted _ _ = true from rfl)]
    obtain ⟨ph, hSp, hdone⟩ := hG.any
    have hfin := hK (.slice (some ⟨g, 0, none⟩) n c2) w (hG.quiet 6 6 31 _ rfl (by kernel_rfl) (by kernel_rfl))
    have HK := Lib.hid hfin
    generalize (resOf fi5C fun t => a.eval (.tmp t)) = R at *
    obtain ⟨k1, k2, k3, k4⟩ := hcell0 _ _ _ hSp
    clear hcell0 hb1 hr1 k1 k2 k3
    clear hSp hdone
    clear hG hcl hdep hfr hK hfin hLi 
    go_simp
    exact HK.out
  | 7, ho =>
    simp only [opsFi5, List.getElem?_toArray, List.getElem?_cons_succ, List.getElem?_cons_zero, Option.some.injEq] at ho
    subst ho
    rw [if_pos (show Region.wanted _ _ = true from rfl)]
    obtain ⟨ph, hSp, hdone⟩ := hG.any
    have hfin := hK (.string key) w (hG.quiet 7 7 32 _ rfl (by kernel_rfl) (by kernel_rfl))
    have HK := Lib.hid hfin
    generalize (resOf fi5C fun t => a.eval (.tmp t)) = R at *
    obtain ⟨k1, k2, k3, k4⟩ := hcell0 _ _ _ hSp
    clear hcell0 hb1 hr1 k1 k3 k4
    clear hSp hdone
    clear hG hcl hdep hfr hK hfin hLi 
    go_simp
    exact HK.out
  | 8, ho =>
    simp only [opsFi5, List.getElem?_toArray, List.getElem?_cons_succ, List.getElem?_cons_zero, Option.some.injEq] at ho
    subst ho
    have x31 : a.tmps[31]?.getD undef = .slice (some ⟨g, 0, none⟩) n c2 := by rw [← ev]; exact hG.val 6 6 31 _ rfl (hdep ⟨6, .data⟩ (by simp) rfl)
    have x32 : a.tmps[32]?.getD undef = .string key := by rw [← ev]; exact hG.val 7 7 32 _ rfl (hdep ⟨7, .data⟩ (by simp) rfl)
    rw [if_pos (show Region.wanted _ _ = true from rfl)]
    have hSj := hG.at 0 (8, 33) rfl hLi (fun c h0 hc => absurd h0 (by decide))
    have hfin := fun v w' hs => hK v w' (hG.call 0 (8, 33) rfl hLi (fun c h0 hc => absurd h0 (by decide)) (by kernel_rfl) v w' hs)
    have HK := Lib.hid hfin
    generalize (resOf fi5C fun t => a.eval (.tmp t)) = R at *
    clear hG hcl hdep hfr hK hfin hLi
    have hc := Lib.hid (hb1 _ _ hSj)
    clear hSj hcell0 hb1 hr1
    go_simp
    go_at_call 50
    refine hc.out.mono ?_
    rintro e w' ⟨v, rfl, hs⟩
    exact HK.out v w' hs
  | 9, ho =>
    simp only [opsFi5, List.getElem?_toArray, List.getElem?_cons_succ, List.getElem?_cons_zero, Option.some.injEq] at ho
    subst ho
    rw [if_pos (show Region.wanted _ _ = true from rfl)]
    obtain ⟨ph, hSp, hdone⟩ := hG.any
    have hd33 : 0 < ph := hdone 0 (8, 33) rfl (hdep ⟨8, .data⟩ (by simp) rfl)
    have r33 : a.tmps[33]?.getD undef = resOf fi5C (fun t => a.eval (.tmp t)) 0 := by rw [← ev]; exact (resOf_at (C := fi5C) (j := 0) rfl a).symm
    have hfin := hK (.tuple #[.int .i64 P, .bool H]) w (hG.quiet 8 9 24 _ rfl (by kernel_rfl) (by kernel_rfl))
    have HK := Lib.hid hfin
    generalize (resOf fi5C fun t => a.eval (.tmp t)) = R at *
    have q1 := hr1 _ _ _ hSp hd33
    rw [q1] at r33
    clear hcell0 hb1 hr1 q1 hd33
    clear hSp hdone
    clear hG hcl hdep hfr hK hfin hLi 
    go_simp
    exact HK.out
  | 10, ho =>
    simp only [opsFi5, List.getElem?_toArray, List.getElem?_cons_succ, List.getElem?_cons_zero, Option.some.injEq] at ho
    subst ho
    have x24 : a.tmps[24]?.getD undef = .tuple #[.int .i64 P, .bool H] := by rw [← ev]; exact hG.val 8 9 24 _ rfl (hdep ⟨9, .data⟩ (by simp) rfl)
    rw [if_pos (show Region.wanted _ _ = true from rfl)]
    have hfin := hK (.int .i64 P) w (hG.quiet 9 10 34 _ rfl (by kernel_rfl) (by kernel_rfl))
    have HK := Lib.hid hfin
    clear hG hcl hdep hfr hK hfin hLi 
    go_simp
    exact HK.out
  | 11, ho =>
    simp only [opsFi5, List.getElem?_toArray, List.getElem?_cons_succ, List.getElem?_cons_zero, Option.some.injEq] at ho
    subst ho
    have x24 : a.tmps[24]?.getD undef = .tuple #[.int .i64 P, .bool H] := by rw [← ev]; exact hG.val 8 9 24 _ rfl (hdep ⟨9, .data⟩ (by simp) rfl)
    rw [if_pos (show Region.wanted _ _ = true from rfl)]
    have hfin := hK (.bool H) w (hG.quiet 10 11 35 _ rfl (by kernel_rfl) (by kernel_rfl))
    have HK := Lib.hid hfin
    clear hG hcl hdep hfr hK hfin hLi 
    go_simp
    exact HK.out
  | 12, ho =>
    simp only [opsFi5, List.getElem?_toArray, List.getElem?_cons_succ, List.getElem?_cons_zero, Option.some.injEq] at ho
    subst ho
    have x34 : a.tmps[34]?.getD undef = .int .i64 P := by rw [← ev]; exact hG.val 9 10 34 _ rfl (hdep ⟨10, .data⟩ (by simp) rfl)
    rw [if_pos (show Region.wanted _ _ = true from rfl)]
    have hfin := hK (.int .i64 P) w (hG.quiet 11 12 5 _ rfl (by kernel_rfl) (by kernel_rfl))
    have HK := Lib.hid hfin
    clear hG hcl hdep hfr hK hfin hLi 
    go_simp
    exact HK.out
  | 13, ho =>
    simp only [opsFi5, List.getElem?_toArray, List.getElem?_cons_succ, List.getElem?_cons_zero, Option.some.injEq] at ho
    subst ho
    have x35 : a.tmps[35]?.getD undef = .bool H := by rw [← ev]; exact hG.val 10 11 35 _ rfl (hdep ⟨11, .data⟩ (by simp) rfl)
    rw [if_pos (show Region.wanted _ _ = true from rfl)]
    have hfin := hK (.bool H) w (hG.quiet 12 13 6 _ rfl (by kernel_rfl) (by kernel_rfl))
    have HK := Lib.hid hfin
    clear hG hcl hdep hfr hK hfin hLi 
    go_simp
    exact HK.out
  | n + 14, ho => exact absurd (Array.getElem?_eq_some_iff.1 ho).1 (by show ¬ n + 14 < 14; omega)
end Go.Proofs.Ytgpkdnnlgafenaa
