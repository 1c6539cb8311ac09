/- QueuePlays' region of Move: w[x.To] = append(append([]string{}, w[x.To]...), w[x.Q][0]). -/
import Derived.Test.YtgmimhhehmahiaaQueR32
namespace Go.Proofs.Ytgmimhhehmahiaa
open Go.Conc Go.RowKit
set_option linter.unusedVariables false

def ops45 : Array Oper := #[
  { dst := some 334, op := Op.fieldAddr 41 (Operand.tmp 15) 2, type := 0, pos := "law.go:94", after := #[], guard := none },
  { dst := some 335, op := Op.load 3 (Operand.tmp 334), type := 3, pos := "law.go:94", after := #[{ on := 0, ground := Ground.data }], guard := none },
  { dst := some 336, op := Op.buildSlice 37 0 #[], type := 37, pos := "law.go:94", after := #[], guard := none },
  { dst := some 337, op := Op.fieldAddr 41 (Operand.tmp 15) 2, type := 0, pos := "law.go:94", after := #[], guard := none },
  { dst := some 338, op := Op.load 3 (Operand.tmp 337), type := 3, pos := "law.go:94", after := #[{ on := 3, ground := Ground.data }], guard := none },
  { dst := some 339, op := Op.indexAddr 38 (Operand.tmp 12) (Operand.tmp 338), type := 0, pos := "law.go:94", after := #[{ on := 4, ground := Ground.data }], guard := none },
  { dst := some 340, op := Op.load 37 (Operand.tmp 339), type := 37, pos := "law.go:94", after := #[{ on := 5, ground := Ground.data }], guard := none },
  { dst := some 341, op := Op.call { callee := Callee.builtin Builtin.append, args := #[Operand.tmp 336, Operand.tmp 340], argTypes := #[37, 37] }, type := 37, pos := "law.go:94", after := #[{ on := 2, ground := Ground.data }, { on := 6, ground := Ground.data }], guard := none },
  { dst := some 342, op := Op.fieldAddr 41 (Operand.tmp 15) 1, type := 0, pos := "law.go:94", after := #[], guard := none },
  { dst := some 343, op := Op.load 3 (Operand.tmp 342), type := 3, pos := "law.go:94", after := #[{ on := 8, ground := Ground.data }], guard := none },
  { dst := some 344, op := Op.indexAddr 38 (Operand.tmp 12) (Operand.tmp 343), type := 0, pos := "law.go:94", after := #[{ on := 9, ground := Ground.data }], guard := none },
  { dst := some 345, op := Op.load 37 (Operand.tmp 344), type := 37, pos := "law.go:94", after := #[{ on := 10, ground := Ground.data }], guard := none },
  { dst := some 346, op := Op.indexAddr 37 (Operand.tmp 345) (Operand.const (Value.int IntKind.i64 0)), type := 0, pos := "law.go:94", after := #[{ on := 11, ground := Ground.data }], guard := none },
  { dst := some 347, op := Op.load 9 (Operand.tmp 346), type := 9, pos := "law.go:94", after := #[{ on := 12, ground := Ground.data }], guard := none },
  { dst := some 348, op := Op.buildSlice 37 1 #[(0, Operand.tmp 347)], type := 37, pos := "law.go:94", after := #[{ on := 13, ground := Ground.data }], guard := none },
  { dst := some 349, op := Op.call { callee := Callee.builtin Builtin.append, args := #[Operand.tmp 341, Operand.tmp 348], argTypes := #[37, 37] }, type := 37, pos := "law.go:94", after := #[{ on := 7, ground := Ground.data }, { on := 14, ground := Ground.data }, { on := 7, ground := Ground.chain }], guard := none },
  { dst := some 350, op := Op.indexAddr 38 (Operand.tmp 12) (Operand.tmp 335), type := 0, pos := "law.go:94", after := #[{ on := 1, ground := Ground.data }, { on := 0, ground := Ground.phase }, { on := 1, ground := Ground.phase }, { on := 2, ground := Ground.phase }, { on := 3, ground := Ground.phase }, { on := 4, ground := Ground.phase }, { on := 5, ground := Ground.phase }, { on := 6, ground := Ground.phase }, { on := 7, ground := Ground.phase }, { on := 8, ground := Ground.phase }, { on := 9, ground := Ground.phase }, { on := 10, ground := Ground.phase }, { on := 11, ground := Ground.phase }, { on := 12, ground := Ground.phase }, { on := 13, ground := Ground.phase }, { on := 14, ground := Ground.phase }, { on := 15, ground := Ground.phase }], guard := none },
  { dst := none, op := Op.store 37 (Operand.tmp 350) (Operand.tmp 349), type := 0, pos := "law.go:94", after := #[{ on := 16, ground := Ground.data }, { on := 15, ground := Ground.data }, { on := 15, ground := Ground.chain }, { on := 0, ground := Ground.phase }, { on := 1, ground := Ground.phase }, { on := 2, ground := Ground.phase }, { on := 3, ground := Ground.phase }, { on := 4, ground := Ground.phase }, { on := 5, ground := Ground.phase }, { on := 6, ground := Ground.phase }, { on := 7, ground := Ground.phase }, { on := 8, ground := Ground.phase }, { on := 9, ground := Ground.phase }, { on := 10, ground := Ground.phase }, { on := 11, ground := Ground.phase }, { on := 12, ground := Ground.phase }, { on := 13, ground := Ground.phase }, { on := 14, ground := Ground.phase }, { on := 15, ground := Ground.phase }], guard := none }]


def pure45 (xb N kq kt : Nat) (A : Option Addr) (n c : Nat) (g o cq m : Nat) (x : ByteArray) : List (Nat × Value) :=
  [(0, .pointer (some ⟨xb, 2, none⟩)), (1, .int .i64 kt), (3, .pointer (some ⟨xb, 2, none⟩)), (4, .int .i64 kt), (5, .pointer (some ⟨N + 7, kt, none⟩)), (6, .slice A n c), (8, .pointer (some ⟨xb, 1, none⟩)), (9, .int .i64 kq), (10, .pointer (some ⟨N + 7, kq, none⟩)), (11, .slice (some ⟨g, o, none⟩) (m + 1) cq), (12, .pointer (some ⟨g, o, none⟩)), (13, .string x), (16, .pointer (some ⟨N + 7, kt, none⟩))]

set_option maxHeartbeats 1600000 in
set_option maxRecDepth 100000 in
theorem region45 {Q : Exit → Act → World → Prop} {a0 : Act} {B : Nat} {w0 wp : World} {N rm xb : Nat} {op : Int} {kq kt : Nat} {s : ByteArray} {Fq F : Nat → List ByteArray} {Cq Ck : Nat → Bool}
    (hsz : 350 < a0.tmps.size) (h12 : a0.eval (.tmp 12) = .pointer (some ⟨N + 7, 0, none⟩)) (h15 : a0.eval (.tmp 15) = .pointer (some ⟨xb, 0, none⟩))
    (hL : Live B w0 N rm xb op kq kt s Fq F Cq Ck wp) (hkq : kq < 3) (hkt : kt < 3) (hlen : (F kt).length ≤ 64) {A : Option Addr} {c : Nat} (hrow : wp.cell? ⟨N + 7, kt, none⟩ = some (.slice A (F kt).length c)) (hstr : Strs wp wp.heap.size A (F kt))
    {g o cq m : Nat} {x : ByteArray} (hrow2 : wp.cell? ⟨N + 7, kq, none⟩ = some (.slice (some ⟨g, o, none⟩) (m + 1) cq)) (hg : g < wp.heap.size) (hgx : wp.cell? ⟨g, o, none⟩ = some (.string x))
    (fin : ∀ a w', Fr [334, 335, 336, 337, 338, 339, 340, 341, 342, 343, 344, 345, 346, 347, 348, 349, 350] a0 a → Live B w0 N rm xb op kq kt s Fq (upd F kt (F kt ++ [x])) Cq Ck w' → Q .normal a w') :
    (Code.region 45 ops45 true).wp Try.prog Q a0 wp := by
  have hz := hL.inv.size
  have hxl := hL.act.lt
  have hx := hL.hx
  have hq1 : (kq : Int) < 3 := by omega
  have hq0 : (0 : Int) ≤ (kq : Int) := by omega
  have ht1 : (kt : Int) < 3 := by omega
  have ht0 : (0 : Int) ≤ (kt : Int) := by omega
  obtain ⟨i0, hi, hz0, hz1, hz2⟩ := info_parts Try.infoStr
  refine region_inv (by kernel_rfl) [334, 335, 336, 337, 338, 339, 340, 341, 342, 343, 344, 345, 346, 347, 348, 349, 350] (by kernel_rfl) (by kernel_rfl) (fun t ht => by simp at ht; omega)
    (GM (pure45 xb N kq kt A (F kt).length c g o cq m x) 9 wp (F kt) x (Live B w0 N rm xb op kq kt s Fq (upd F kt (F kt ++ [x])) Cq Ck) 334 2 7 14 15 17) (GM.start (Below.refl _ _).drew) ?_ (fun L a w hf hall hG => fin a w hf (hG.2.1 (hall 17 (by decide))))
  intro i oo ho L a w hfr hG hLi hdep hcl K hK
  have e12 : a.tmps[12]?.getD undef = .pointer (some ⟨N + 7, 0, none⟩) := by rw [← ev]; exact (hfr.same 12 (by decide)).trans h12
  have e15 : a.tmps[15]?.getD undef = .pointer (some ⟨xb, 0, none⟩) := by rw [← ev]; exact (hfr.same 15 (by decide)).trans h15
  have pv : ∀ p ∈ pure45 xb N kq kt A (F kt).length c g o cq m x, L p.1 = true → a.tmps[334 + p.1]?.getD undef = p.2 := fun p hp hl => by rw [← ev]; exact hG.2.2.1 p hp hl
  have hlast : i < 17 → L 17 = false := fun h13 => last_false (n := 17) (by kernel_rfl) hcl h13 hLi
  have hbel : i < 17 → Below wp.heap.size wp w := fun h => hG.1 (hlast h)
  match i, ho with
  | 0, ho =>
    simp only [ops45, List.getElem?_toArray, List.getElem?_cons_zero, Option.some.injEq] at ho
    subst ho
    rw [if_pos (show Region.wanted _ _ = true from rfl)]
    have hfin := hK (.pointer (some ⟨xb, 2, none⟩)) w (hG.quiet 0 _ 334 rfl (by decide) (by simp [pure45]))
    have HK := Lib.hid hfin
    clear hG pv hcl hdep hfr hlast hbel hK hfin
    go_simp
    exact HK.out
  | 1, ho =>
    simp only [ops45, List.getElem?_toArray, List.getElem?_cons_succ, List.getElem?_cons_zero, Option.some.injEq] at ho
    subst ho
    rw [if_pos (show Region.wanted _ _ = true from rfl)]
    have x0 : a.tmps[334]?.getD undef = .pointer (some ⟨xb, 2, none⟩) := pv (0, _) (by simp [pure45]) (hdep ⟨0, .data⟩ (by simp) rfl)
    have hc : w.cell? ⟨xb, 2, none⟩ = some (.int .i64 kt) := ((hbel (by decide)).cell (p := ⟨xb, 2, none⟩) (by show xb < _; omega)).trans (hL.act.x2)
    have hfin := hK (.int .i64 kt) w (hG.quiet 1 _ 335 rfl (by decide) (by simp [pure45]))
    have HK := Lib.hid hfin
    clear hG pv hcl hdep hfr hlast hbel hK hfin
    go_simp
    exact HK.out
  | 3, ho =>
    simp only [ops45, List.getElem?_toArray, List.getElem?_cons_succ, List.getElem?_cons_zero, Option.some.injEq] at ho
    subst ho
    rw [if_pos (show Region.wanted _ _ = true from rfl)]
    have hfin := hK (.pointer (some ⟨xb, 2, none⟩)) w (hG.quiet 3 _ 337 rfl (by decide) (by simp [pure45]))
    have HK := Lib.hid hfin
    clear hG pv hcl hdep hfr hlast hbel hK hfin
    go_simp
    exact HK.out
  | 4, ho =>
    simp only [ops45, List.getElem?_toArray, List.getElem?_cons_succ, List.getElem?_cons_zero, Option.some.injEq] at ho
    subst ho
    rw [if_pos (show Region.wanted _ _ = true from rfl)]
    have x3 : a.tmps[337]?.getD undef = .pointer (some ⟨xb, 2, none⟩) := pv (3, _) (by simp [pure45]) (hdep ⟨3, .data⟩ (by simp) rfl)
    have hc : w.cell? ⟨xb, 2, none⟩ = some (.int .i64 kt) := ((hbel (by decide)).cell (p := ⟨xb, 2, none⟩) (by show xb < _; omega)).trans (hL.act.x2)
    have hfin := hK (.int .i64 kt) w (hG.quiet 4 _ 338 rfl (by decide) (by simp [pure45]))
    have HK := Lib.hid hfin
    clear hG pv hcl hdep hfr hlast hbel hK hfin
    go_simp
    exact HK.out
  | 5, ho =>
    simp only [ops45, List.getElem?_toArray, List.getElem?_cons_succ, List.getElem?_cons_zero, Option.some.injEq] at ho
    subst ho
    rw [if_pos (show Region.wanted _ _ = true from rfl)]
    have x4 : a.tmps[338]?.getD undef = .int .i64 kt := pv (4, _) (by simp [pure45]) (hdep ⟨4, .data⟩ (by simp) rfl)
    have hfin := hK (.pointer (some ⟨N + 7, kt, none⟩)) w (hG.quiet 5 _ 339 rfl (by decide) (by simp [pure45]))
    have HK := Lib.hid hfin
    clear hG pv hcl hdep hfr hlast hbel hK hfin
    go_simp
    exact HK.out
  | 6, ho =>
    simp only [ops45, List.getElem?_toArray, List.getElem?_cons_succ, List.getElem?_cons_zero, Option.some.injEq] at ho
    subst ho
    rw [if_pos (show Region.wanted _ _ = true from rfl)]
    have x5 : a.tmps[339]?.getD undef = .pointer (some ⟨N + 7, kt, none⟩) := pv (5, _) (by simp [pure45]) (hdep ⟨5, .data⟩ (by simp) rfl)
    have hc : w.cell? ⟨N + 7, kt, none⟩ = some (.slice A (F kt).length c) := ((hbel (by decide)).cell (p := ⟨N + 7, kt, none⟩) (by show N + 7 < _; omega)).trans (hrow)
    have hfin := hK (.slice A (F kt).length c) w (hG.quiet 6 _ 340 rfl (by decide) (by simp [pure45]))
    have HK := Lib.hid hfin
    clear hG pv hcl hdep hfr hlast hbel hK hfin
    go_simp
    exact HK.out
  | 8, ho =>
    simp only [ops45, List.getElem?_toArray, List.getElem?_cons_succ, List.getElem?_cons_zero, Option.some.injEq] at ho
    subst ho
    rw [if_pos (show Region.wanted _ _ = true from rfl)]
    have hfin := hK (.pointer (some ⟨xb, 1, none⟩)) w (hG.quiet 8 _ 342 rfl (by decide) (by simp [pure45]))
    have HK := Lib.hid hfin
    clear hG pv hcl hdep hfr hlast hbel hK hfin
    go_simp
    exact HK.out
  | 9, ho =>
    simp only [ops45, List.getElem?_toArray, List.getElem?_cons_succ, List.getElem?_cons_zero, Option.some.injEq] at ho
    subst ho
    rw [if_pos (show Region.wanted _ _ = true from rfl)]
    have x8 : a.tmps[342]?.getD undef = .pointer (some ⟨xb, 1, none⟩) := pv (8, _) (by simp [pure45]) (hdep ⟨8, .data⟩ (by simp) rfl)
    have hc : w.cell? ⟨xb, 1, none⟩ = some (.int .i64 kq) := ((hbel (by decide)).cell (p := ⟨xb, 1, none⟩) (by show xb < _; omega)).trans (hL.act.x1)
    have hfin := hK (.int .i64 kq) w (hG.quiet 9 _ 343 rfl (by decide) (by simp [pure45]))
    have HK := Lib.hid hfin
    clear hG pv hcl hdep hfr hlast hbel hK hfin
    go_simp
    exact HK.out
  | 10, ho =>
    simp only [ops45, List.getElem?_toArray, List.getElem?_cons_succ, List.getElem?_cons_zero, Option.some.injEq] at ho
    subst ho
    rw [if_pos (show Region.wanted _ _ = true from rfl)]
    have x9 : a.tmps[343]?.getD undef = .int .i64 kq := pv (9, _) (by simp [pure45]) (hdep ⟨9, .data⟩ (by simp) rfl)
    have hfin := hK (.pointer (some ⟨N + 7, kq, none⟩)) w (hG.quiet 10 _ 344 rfl (by decide) (by simp [pure45]))
    have HK := Lib.hid hfin
    clear hG pv hcl hdep hfr hlast hbel hK hfin
    go_simp
    exact HK.out
  | 11, ho =>
    simp only [ops45, List.getElem?_toArray, List.getElem?_cons_succ, List.getElem?_cons_zero, Option.some.injEq] at ho
    subst ho
    rw [if_pos (show Region.wanted _ _ = true from rfl)]
    have x10 : a.tmps[344]?.getD undef = .pointer (some ⟨N + 7, kq, none⟩) := pv (10, _) (by simp [pure45]) (hdep ⟨10, .data⟩ (by simp) rfl)
    have hc : w.cell? ⟨N + 7, kq, none⟩ = some (.slice (some ⟨g, o, none⟩) (m + 1) cq) := ((hbel (by decide)).cell (p := ⟨N + 7, kq, none⟩) (by show N + 7 < _; omega)).trans (hrow2)
    have hfin := hK (.slice (some ⟨g, o, none⟩) (m + 1) cq) w (hG.quiet 11 _ 345 rfl (by decide) (by simp [pure45]))
    have HK := Lib.hid hfin
    clear hG pv hcl hdep hfr hlast hbel hK hfin
    go_simp
    exact HK.out
  | 12, ho =>
    simp only [ops45, List.getElem?_toArray, List.getElem?_cons_succ, List.getElem?_cons_zero, Option.some.injEq] at ho
    subst ho
    rw [if_pos (show Region.wanted _ _ = true from rfl)]
    have x11 : a.tmps[345]?.getD undef = .slice (some ⟨g, o, none⟩) (m + 1) cq := pv (11, _) (by simp [pure45]) (hdep ⟨11, .data⟩ (by simp) rfl)
    have hfin := hK (.pointer (some ⟨g, o, none⟩)) w (hG.quiet 12 _ 346 rfl (by decide) (by simp [pure45]))
    have HK := Lib.hid hfin
    clear hG pv hcl hdep hfr hlast hbel hK hfin
    go_simp
    exact HK.out
  | 13, ho =>
    simp only [ops45, List.getElem?_toArray, List.getElem?_cons_succ, List.getElem?_cons_zero, Option.some.injEq] at ho
    subst ho
    rw [if_pos (show Region.wanted _ _ = true from rfl)]
    have x12 : a.tmps[346]?.getD undef = .pointer (some ⟨g, o, none⟩) := pv (12, _) (by simp [pure45]) (hdep ⟨12, .data⟩ (by simp) rfl)
    have hc : w.cell? ⟨g, o, none⟩ = some (.string x) := ((hbel (by decide)).cell (p := ⟨g, o, none⟩) (by show g < _; omega)).trans (hgx)
    have hfin := hK (.string x) w (hG.quiet 13 _ 347 rfl (by decide) (by simp [pure45]))
    have HK := Lib.hid hfin
    clear hG pv hcl hdep hfr hlast hbel hK hfin
    go_simp
    exact HK.out
  | 16, ho =>
    simp only [ops45, List.getElem?_toArray, List.getElem?_cons_succ, List.getElem?_cons_zero, Option.some.injEq] at ho
    subst ho
    rw [if_pos (show Region.wanted _ _ = true from rfl)]
    have x1 : a.tmps[335]?.getD undef = .int .i64 kt := pv (1, _) (by simp [pure45]) (hdep ⟨1, .data⟩ (by simp) rfl)
    have hfin := hK (.pointer (some ⟨N + 7, kt, none⟩)) w (hG.quiet 16 _ 350 rfl (by decide) (by simp [pure45]))
    have HK := Lib.hid hfin
    clear hG pv hcl hdep hfr hlast hbel hK hfin
    go_simp
    exact HK.out
  | 2, ho =>
    simp only [ops45, List.getElem?_toArray, List.getElem?_cons_succ, List.getElem?_cons_zero, Option.some.injEq] at ho
    subst ho
    rw [if_pos (show Region.wanted _ _ = true from rfl)]
    have hfin := hK (.slice (some ⟨w.heap.size, 0, none⟩) 0 0) _ (hG.empty 336 rfl (by decide) (by simp [pure45]) (hlast (by decide)) _ rfl)
    have HK := Lib.hid hfin
    clear hG pv hcl hdep hfr hlast hbel hK hfin
    go_simp
    exact HK.out
  | 14, ho =>
    simp only [ops45, List.getElem?_toArray, List.getElem?_cons_succ, List.getElem?_cons_zero, Option.some.injEq] at ho
    subst ho
    rw [if_pos (show Region.wanted _ _ = true from rfl)]
    have x13 : a.tmps[347]?.getD undef = .string x := pv (13, _) (by simp [pure45]) (hdep ⟨13, .data⟩ (by simp) rfl)
    have hfin := hK (.slice (some ⟨w.heap.size, 0, none⟩) 1 1) _ (hG.one 348 rfl (by decide) (by simp [pure45]) (hlast (by decide)) _ rfl)
    have HK := Lib.hid hfin
    clear hG pv hcl hdep hfr hlast hbel hK hfin
    go_simp
    exact HK.out
  | 7, ho =>
    simp only [ops45, List.getElem?_toArray, List.getElem?_cons_succ, List.getElem?_cons_zero, Option.some.injEq] at ho
    subst ho
    have x6 : a.tmps[340]?.getD undef = .slice A (F kt).length c := pv (6, _) (by simp [pure45]) (hdep ⟨6, .data⟩ (by simp) rfl)
    have h15l : L 15 = false := by
      cases hl : L 15 with
      | false => rfl
      | true =>
        have := hcl 15 _ rfl hl ⟨7, .data⟩ (by simp [ops45]) rfl
        rw [hLi] at this; cases this
    obtain ⟨g', g1, g2, g3⟩ := hG.2.2.2.1 (hdep ⟨2, .data⟩ (by simp) rfl) hLi
    refine step_append_lit0 rfl (.tmp 336) (.tmp 340) 37 rfl wp.heap.size 9 i0 (.string ⟨#[]⟩) 16 Try.underlying37 hi hz0 hz1 hz2 rfl (sv (F kt)) (F kt).length (sv_length _)
      ⟨g', g2, g3, g1⟩ ⟨A, c, by rw [ev]; exact x6, Strs.news hstr (hbel (by decide))⟩ (sv_one _) (by unfold maxLen; omega) (by omega) (hbel (by decide)).size ?_
    intro v1 w1 hown1 hg1 hb1
    exact hK v1 w1 (hG.app1 341 rfl (by decide) (by simp [pure45]) (hlast (by decide)) h15l hown1 hg1 hb1)
  | 15, ho =>
    simp only [ops45, List.getElem?_toArray, List.getElem?_cons_succ, List.getElem?_cons_zero, Option.some.injEq] at ho
    subst ho
    have l7 := (hdep ⟨7, .data⟩ (by simp) rfl)
    have hown := hG.2.2.2.2.1 l7 hLi
    obtain ⟨g', g1, g2, g3⟩ := hG.2.2.2.2.2.1 (hdep ⟨14, .data⟩ (by simp) rfl) hLi
    refine step_append_lit1 rfl (.tmp 341) (.tmp 348) 37 rfl wp.heap.size 9 i0 (.string ⟨#[]⟩) 16 Try.underlying37 hi hz0 hz1 hz2 rfl _ (F kt).length (sv (F kt)) rfl hown x
      ⟨g', 1, 9, g2, g3⟩ (by unfold maxLen; omega) (by omega) (hbel (by decide)).size ?_
    intro v2 w2 hown2 hb2
    exact hK v2 w2 (hG.app2 349 rfl (by decide) (by simp [pure45]) (hlast (by decide)) l7 (by rw [sv_append]; exact hown2) hb2)
  | 17, ho =>
    simp only [ops45, List.getElem?_toArray, List.getElem?_cons_succ, List.getElem?_cons_zero, Option.some.injEq] at ho
    subst ho
    rw [if_pos (show Region.wanted _ _ = true from rfl)]
    have l15 := (hdep ⟨15, .data⟩ (by simp) rfl)
    have l7 := hdep ⟨7, .phase⟩ (by simp) rfl
    have x16 : a.tmps[350]?.getD undef = .pointer (some ⟨N + 7, kt, none⟩) := pv (16, _) (by simp [pure45]) (hdep ⟨16, .data⟩ (by simp) rfl)
    have hbw : Below wp.heap.size wp w := hG.1 hLi
    have hown : w.ownsRow wp.heap.size 9 1 (a.eval (.tmp 349)) ((F kt).length + 1) (sv (F kt ++ [x])) := hG.2.2.2.2.2.2 l15 hLi
    obtain ⟨A2, c2, hv, hc2, hm2⟩ := own_shape hown
    rw [hv] at hown
    obtain ⟨h2s, h2n⟩ := Strs.of_own hown
    have hlive := (hL.below hbw).putRow hkt h2n hc2 hm2 h2s
    have x11 : a.tmps[349]?.getD undef = .slice A2 ((F kt).length + 1) c2 := by rw [← ev]; exact hv
    have hcell : w.cell? ⟨N + 7, kt, none⟩ = some (.slice A (F kt).length c) := (hbw.cell (p := ⟨N + 7, kt, none⟩) (by show N + 7 < _; omega)).trans hrow
    have hfree : w.frozen? ⟨N + 7, kt, none⟩ = false := (hbw.frozen (p := ⟨N + 7, kt, none⟩) (by show N + 7 < _; omega)).trans (hL.inv.rowf kt hkt)
    have hfin := hK undef _ (hG.store undef (by decide) (by simp [pure45]) l7 l15 hlive)
    have HK := Lib.hid hfin
    clear hG pv hcl hdep hfr hlast hbel hK hfin hown hv h2s h2n hlive hrow hstr hc2 hm2 l7 l15 hlen
    go_simp
    exact HK.out
  | n + 18, ho => exact absurd (Array.getElem?_eq_some_iff.1 ho).1 (by show ¬ n + 18 < 18; omega)
end Go.Proofs.Ytgmimhhehmahiaa
