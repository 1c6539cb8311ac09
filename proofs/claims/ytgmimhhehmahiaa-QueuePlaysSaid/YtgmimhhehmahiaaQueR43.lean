/- QueuePlays' region of Move's call: ok = queue.Move(q[x.Q], q[x.To]) == may. -/
import Derived.Test.YtgmimhhehmahiaaQueR32
namespace Go.Proofs.Ytgmimhhehmahiaa
open Go.Conc Go.RowKit
set_option linter.unusedVariables false

def ops43 : Array Oper := #[
  { dst := some 320, op := Op.move (Operand.tmp 11), type := 36, pos := "law.go:92", after := #[], guard := none },
  { dst := some 321, op := Op.fieldAddr 41 (Operand.tmp 15) 1, type := 0, pos := "law.go:92", after := #[], guard := none },
  { dst := some 322, op := Op.load 3 (Operand.tmp 321), type := 3, pos := "law.go:92", after := #[{ on := 1, ground := Ground.data }], guard := none },
  { dst := some 323, op := Op.indexAddr 36 (Operand.tmp 320) (Operand.tmp 322), type := 0, pos := "law.go:92", after := #[{ on := 0, ground := Ground.data }, { on := 2, ground := Ground.data }], guard := none },
  { dst := some 324, op := Op.load 23 (Operand.tmp 323), type := 23, pos := "law.go:92", after := #[{ on := 3, ground := Ground.data }], guard := none },
  { dst := some 325, op := Op.move (Operand.tmp 11), type := 36, pos := "law.go:92", after := #[], guard := none },
  { dst := some 326, op := Op.fieldAddr 41 (Operand.tmp 15) 2, type := 0, pos := "law.go:92", after := #[], guard := none },
  { dst := some 327, op := Op.load 3 (Operand.tmp 326), type := 3, pos := "law.go:92", after := #[{ on := 6, ground := Ground.data }], guard := none },
  { dst := some 328, op := Op.indexAddr 36 (Operand.tmp 325) (Operand.tmp 327), type := 0, pos := "law.go:92", after := #[{ on := 5, ground := Ground.data }, { on := 7, ground := Ground.data }], guard := none },
  { dst := some 329, op := Op.load 23 (Operand.tmp 328), type := 23, pos := "law.go:92", after := #[{ on := 8, ground := Ground.data }], guard := none },
  { dst := some 330, op := Op.call { callee := Callee.value (Operand.func 13), args := #[Operand.tmp 324, Operand.tmp 329], argTypes := #[23, 23] }, type := 4, pos := "law.go:92", after := #[{ on := 4, ground := Ground.data }, { on := 9, ground := Ground.data }], guard := none },
  { dst := some 331, op := Op.move (Operand.tmp 20), type := 4, pos := "law.go:92", after := #[], guard := none },
  { dst := some 332, op := Op.binOp BinOp.eql 4 (Operand.tmp 330) (Operand.tmp 331) 4, type := 4, pos := "law.go:92", after := #[{ on := 10, ground := Ground.data }, { on := 11, ground := Ground.data }], guard := none },
  { dst := some 16, op := Op.assign (Operand.tmp 332), type := 4, pos := "law.go:92", after := #[{ on := 12, ground := Ground.data }, { on := 10, ground := Ground.chain }, { on := 0, ground := Ground.phase }, { on := 1, ground := Ground.phase }, { on := 2, ground := Ground.phase }, { on := 3, ground := Ground.phase }, { on := 4, ground := Ground.phase }, { on := 5, ground := Ground.phase }, { on := 6, ground := Ground.phase }, { on := 7, ground := Ground.phase }, { on := 8, ground := Ground.phase }, { on := 9, ground := Ground.phase }, { on := 10, ground := Ground.phase }, { on := 11, ground := Ground.phase }, { on := 12, ground := Ground.phase }], guard := none }]


def pure43 (xb N kq kt : Nat) (bq : Bool) : List (Nat × Value) :=
  [(0, .slice (some ⟨N + 6, 0, none⟩) 3 3), (1, .pointer (some ⟨xb, 1, none⟩)), (2, .int .i64 kq), (3, .pointer (some ⟨N + 6, kq, none⟩)), (4, .pointer (some ⟨N + 2 * kq + 1, 0, none⟩)), (5, .slice (some ⟨N + 6, 0, none⟩) 3 3), (6, .pointer (some ⟨xb, 2, none⟩)), (7, .int .i64 kt), (8, .pointer (some ⟨N + 6, kt, none⟩)), (9, .pointer (some ⟨N + 2 * kt + 1, 0, none⟩)), (11, .bool bq)]

def G43 (pure : List (Nat × Value)) (wa : World) (bq : Bool) (Fin : World → Prop) (L : Nat → Bool) (E : Nat → Value) (w : World) : Prop :=
  (L 10 = false → Below wa.heap.size wa w) ∧ (L 10 = true → Fin w) ∧ (∀ p ∈ pure, L p.1 = true → E (320 + p.1) = p.2) ∧
  (L 10 = true → E 330 = .bool bq) ∧ (L 12 = true → E 332 = .bool true) ∧ (L 13 = true → E 16 = .bool true)
theorem G43.quiet {pure : List (Nat × Value)} {wa w : World} {bq : Bool} {Fin : World → Prop} {L : Nat → Bool} {E : Nat → Value} (h : G43 pure wa bq Fin L E w) (i : Nat) (v : Value) (x : Nat) (hx : x = 320 + i) (hn : i ≠ 10 ∧ i ≠ 12 ∧ i ≠ 13) (hv : ∀ p ∈ pure, p.1 = i → v = p.2) : G43 pure wa bq Fin (setL L i) (setE E (some x) v) w := by
  subst hx
  obtain ⟨n1, n2, n3⟩ := hn
  obtain ⟨h1, h2, h3, h5, h6, h7⟩ := h
  unfold G43
  rw [setL_ne L n1.symm, setL_ne L n2.symm, setL_ne L n3.symm, setE_ne E v (t := 330) (by omega), setE_ne E v (t := 332) (by omega), setE_ne E v (t := 16) (by omega)]
  refine ⟨h1, h2, fun p hp hl => ?_, h5, h6, h7⟩
  by_cases e1 : p.1 = i
  · rw [e1, setE_self]; exact hv p hp e1
  · rw [setL_ne L e1] at hl
    rw [setE_ne E v (by omega)]; exact h3 p hp hl

set_option maxHeartbeats 1600000 in
set_option maxRecDepth 100000 in
theorem region43 {Q : Exit → Act → World → Prop} {a0 : Act} {B : Nat} {w0 wp : World} {N rm xb : Nat} {op : Int} {kq kt : Nat} {s : ByteArray} {F : Nat → List ByteArray} {Cq Ck : Nat → Bool} {bq : Bool}
    (hsz : 332 < a0.tmps.size) (h11 : a0.eval (.tmp 11) = .slice (some ⟨N + 6, 0, none⟩) 3 3) (h15 : a0.eval (.tmp 15) = .pointer (some ⟨xb, 0, none⟩)) (h20 : a0.eval (.tmp 20) = .bool bq)
    (hL : Live B w0 N rm xb op kq kt s F F Cq Ck wp) (hkq : kq < 3) (hkt : kt < 3) (hbq : bq = mayMove rm F Cq kq kt)
    (fin : ∀ a w', Fr [320, 321, 322, 323, 324, 325, 326, 327, 328, 329, 330, 331, 332, 16] a0 a → a.eval (.tmp 16) = .bool true → Live B w0 N rm xb op kq kt s (if bq then moved F kq kt else F) F Cq Ck w' → Q .normal a w') :
    (Code.region 43 ops43 true).wp Try.prog Q a0 wp := by
  have hz := hL.inv.size
  have hxl := hL.act.lt
  have hx := hL.hx
  have hq1 : (kq : Int) < 3 := by omega
  have hq0 : (0 : Int) ≤ (kq : Int) := by omega
  have ht1 : (kt : Int) < 3 := by omega
  have ht0 : (0 : Int) ≤ (kt : Int) := by omega
  have HBQ := Lib.hid hbq
  clear hbq
  refine region_inv (by kernel_rfl) [320, 321, 322, 323, 324, 325, 326, 327, 328, 329, 330, 331, 332, 16] (by kernel_rfl) (by kernel_rfl) (fun t ht => by simp at ht; omega)
    (G43 (pure43 xb N kq kt bq) wp bq (Live B w0 N rm xb op kq kt s (if bq then moved F kq kt else F) F Cq Ck))
    ⟨fun _ => (Below.refl _ _).drew, fun h => (by cases h), fun _ _ h => (by cases h), fun h => (by cases h), fun h => (by cases h), fun h => (by cases h)⟩ ?_ (fun L a w hf hall hG => fin a w hf (hG.2.2.2.2.2 (hall 13 (by decide))) (hG.2.1 (hall 10 (by decide))))
  intro i oo ho L a w hfr hG hLi hdep hcl K hK
  have e11 : a.tmps[11]?.getD undef = .slice (some ⟨N + 6, 0, none⟩) 3 3 := by rw [← ev]; exact (hfr.same 11 (by decide)).trans h11
  have e15 : a.tmps[15]?.getD undef = .pointer (some ⟨xb, 0, none⟩) := by rw [← ev]; exact (hfr.same 15 (by decide)).trans h15
  have e20 : a.tmps[20]?.getD undef = .bool bq := by rw [← ev]; exact (hfr.same 20 (by decide)).trans h20
  have pv : ∀ p ∈ pure43 xb N kq kt bq, L p.1 = true → a.tmps[320 + p.1]?.getD undef = p.2 := fun p hp hl => by rw [← ev]; exact hG.2.2.1 p hp hl
  have c10 : L 10 = true → L 4 = true ∧ L 9 = true := fun h => ⟨hcl 10 _ rfl h ⟨4, .data⟩ (by simp [ops43]) rfl, hcl 10 _ rfl h ⟨9, .data⟩ (by simp [ops43]) rfl⟩
  have c9 : L 9 = true → L 8 = true := fun h => hcl 9 _ rfl h ⟨8, .data⟩ (by simp [ops43]) rfl
  have c8 : L 8 = true → L 7 = true := fun h => hcl 8 _ rfl h ⟨7, .data⟩ (by simp [ops43]) rfl
  have c4 : L 4 = true → L 3 = true := fun h => hcl 4 _ rfl h ⟨3, .data⟩ (by simp [ops43]) rfl
  have c3 : L 3 = true → L 2 = true := fun h => hcl 3 _ rfl h ⟨2, .data⟩ (by simp [ops43]) rfl
  have no8 : (i = 2 ∨ i = 4 ∨ i = 7 ∨ i = 9) → L 10 = false := fun hi => by
    cases hl : L 10 with
    | false => rfl
    | true =>
      obtain ⟨l4, l9⟩ := c10 hl
      have l7 := c8 (c9 l9)
      have l2 := c3 (c4 l4)
      rcases hi with rfl | rfl | rfl | rfl
      · rw [hLi] at l2; cases l2
      · rw [hLi] at l4; cases l4
      · rw [hLi] at l7; cases l7
      · rw [hLi] at l9; cases l9
  match i, ho with
  | 0, ho =>
    simp only [ops43, List.getElem?_toArray, List.getElem?_cons_zero, Option.some.injEq] at ho
    subst ho
    rw [if_pos (show Region.wanted _ _ = true from rfl)]
    have hfin := hK (.slice (some ⟨N + 6, 0, none⟩) 3 3) w (hG.quiet 0 _ 320 rfl (by decide) (by simp [pure43]))
    have HK := Lib.hid hfin
    clear hG pv hcl hdep hfr c10 c9 c8 c4 c3 no8 hK hfin
    go_simp
    exact HK.out
  | 1, ho =>
    simp only [ops43, List.getElem?_toArray, List.getElem?_cons_succ, List.getElem?_cons_zero, Option.some.injEq] at ho
    subst ho
    rw [if_pos (show Region.wanted _ _ = true from rfl)]
    have hfin := hK (.pointer (some ⟨xb, 1, none⟩)) w (hG.quiet 1 _ 321 rfl (by decide) (by simp [pure43]))
    have HK := Lib.hid hfin
    clear hG pv hcl hdep hfr c10 c9 c8 c4 c3 no8 hK hfin
    go_simp
    exact HK.out
  | 2, ho =>
    simp only [ops43, List.getElem?_toArray, List.getElem?_cons_succ, List.getElem?_cons_zero, Option.some.injEq] at ho
    subst ho
    rw [if_pos (show Region.wanted _ _ = true from rfl)]
    have x1 : a.tmps[321]?.getD undef = .pointer (some ⟨xb, 1, none⟩) := pv (1, _) (by simp [pure43]) (hdep ⟨1, .data⟩ (by simp) rfl)
    have hc : w.cell? ⟨xb, 1, none⟩ = some (.int .i64 kq) := ((hG.1 (no8 (by simp))).cell (p := ⟨xb, 1, none⟩) (by show xb < _; omega)).trans (hL.act.x1)
    have hfin := hK (.int .i64 kq) w (hG.quiet 2 _ 322 rfl (by decide) (by simp [pure43]))
    have HK := Lib.hid hfin
    clear hG pv hcl hdep hfr c10 c9 c8 c4 c3 no8 hK hfin
    go_simp
    exact HK.out
  | 3, ho =>
    simp only [ops43, List.getElem?_toArray, List.getElem?_cons_succ, List.getElem?_cons_zero, Option.some.injEq] at ho
    subst ho
    rw [if_pos (show Region.wanted _ _ = true from rfl)]
    have x0 : a.tmps[320]?.getD undef = .slice (some ⟨N + 6, 0, none⟩) 3 3 := pv (0, _) (by simp [pure43]) (hdep ⟨0, .data⟩ (by simp) rfl)
    have x2 : a.tmps[322]?.getD undef = .int .i64 kq := pv (2, _) (by simp [pure43]) (hdep ⟨2, .data⟩ (by simp) rfl)
    have hfin := hK (.pointer (some ⟨N + 6, kq, none⟩)) w (hG.quiet 3 _ 323 rfl (by decide) (by simp [pure43]))
    have HK := Lib.hid hfin
    clear hG pv hcl hdep hfr c10 c9 c8 c4 c3 no8 hK hfin
    go_simp
    exact HK.out
  | 4, ho =>
    simp only [ops43, List.getElem?_toArray, List.getElem?_cons_succ, List.getElem?_cons_zero, Option.some.injEq] at ho
    subst ho
    rw [if_pos (show Region.wanted _ _ = true from rfl)]
    have x3 : a.tmps[323]?.getD undef = .pointer (some ⟨N + 6, kq, none⟩) := pv (3, _) (by simp [pure43]) (hdep ⟨3, .data⟩ (by simp) rfl)
    have hc : w.cell? ⟨N + 6, kq, none⟩ = some (.pointer (some ⟨N + 2 * kq + 1, 0, none⟩)) := ((hG.1 (no8 (by simp))).cell (p := ⟨N + 6, kq, none⟩) (by show N + 6 < _; omega)).trans (hL.inv.ptr kq hkq)
    have hfin := hK (.pointer (some ⟨N + 2 * kq + 1, 0, none⟩)) w (hG.quiet 4 _ 324 rfl (by decide) (by simp [pure43]))
    have HK := Lib.hid hfin
    clear hG pv hcl hdep hfr c10 c9 c8 c4 c3 no8 hK hfin
    go_simp
    exact HK.out
  | 5, ho =>
    simp only [ops43, List.getElem?_toArray, List.getElem?_cons_succ, List.getElem?_cons_zero, Option.some.injEq] at ho
    subst ho
    rw [if_pos (show Region.wanted _ _ = true from rfl)]
    have hfin := hK (.slice (some ⟨N + 6, 0, none⟩) 3 3) w (hG.quiet 5 _ 325 rfl (by decide) (by simp [pure43]))
    have HK := Lib.hid hfin
    clear hG pv hcl hdep hfr c10 c9 c8 c4 c3 no8 hK hfin
    go_simp
    exact HK.out
  | 6, ho =>
    simp only [ops43, List.getElem?_toArray, List.getElem?_cons_succ, List.getElem?_cons_zero, Option.some.injEq] at ho
    subst ho
    rw [if_pos (show Region.wanted _ _ = true from rfl)]
    have hfin := hK (.pointer (some ⟨xb, 2, none⟩)) w (hG.quiet 6 _ 326 rfl (by decide) (by simp [pure43]))
    have HK := Lib.hid hfin
    clear hG pv hcl hdep hfr c10 c9 c8 c4 c3 no8 hK hfin
    go_simp
    exact HK.out
  | 7, ho =>
    simp only [ops43, List.getElem?_toArray, List.getElem?_cons_succ, List.getElem?_cons_zero, Option.some.injEq] at ho
    subst ho
    rw [if_pos (show Region.wanted _ _ = true from rfl)]
    have x6 : a.tmps[326]?.getD undef = .pointer (some ⟨xb, 2, none⟩) := pv (6, _) (by simp [pure43]) (hdep ⟨6, .data⟩ (by simp) rfl)
    have hc : w.cell? ⟨xb, 2, none⟩ = some (.int .i64 kt) := ((hG.1 (no8 (by simp))).cell (p := ⟨xb, 2, none⟩) (by show xb < _; omega)).trans (hL.act.x2)
    have hfin := hK (.int .i64 kt) w (hG.quiet 7 _ 327 rfl (by decide) (by simp [pure43]))
    have HK := Lib.hid hfin
    clear hG pv hcl hdep hfr c10 c9 c8 c4 c3 no8 hK hfin
    go_simp
    exact HK.out
  | 8, ho =>
    simp only [ops43, List.getElem?_toArray, List.getElem?_cons_succ, List.getElem?_cons_zero, Option.some.injEq] at ho
    subst ho
    rw [if_pos (show Region.wanted _ _ = true from rfl)]
    have x5 : a.tmps[325]?.getD undef = .slice (some ⟨N + 6, 0, none⟩) 3 3 := pv (5, _) (by simp [pure43]) (hdep ⟨5, .data⟩ (by simp) rfl)
    have x7 : a.tmps[327]?.getD undef = .int .i64 kt := pv (7, _) (by simp [pure43]) (hdep ⟨7, .data⟩ (by simp) rfl)
    have hfin := hK (.pointer (some ⟨N + 6, kt, none⟩)) w (hG.quiet 8 _ 328 rfl (by decide) (by simp [pure43]))
    have HK := Lib.hid hfin
    clear hG pv hcl hdep hfr c10 c9 c8 c4 c3 no8 hK hfin
    go_simp
    exact HK.out
  | 9, ho =>
    simp only [ops43, List.getElem?_toArray, List.getElem?_cons_succ, List.getElem?_cons_zero, Option.some.injEq] at ho
    subst ho
    rw [if_pos (show Region.wanted _ _ = true from rfl)]
    have x8 : a.tmps[328]?.getD undef = .pointer (some ⟨N + 6, kt, none⟩) := pv (8, _) (by simp [pure43]) (hdep ⟨8, .data⟩ (by simp) rfl)
    have hc : w.cell? ⟨N + 6, kt, none⟩ = some (.pointer (some ⟨N + 2 * kt + 1, 0, none⟩)) := ((hG.1 (no8 (by simp))).cell (p := ⟨N + 6, kt, none⟩) (by show N + 6 < _; omega)).trans (hL.inv.ptr kt hkt)
    have hfin := hK (.pointer (some ⟨N + 2 * kt + 1, 0, none⟩)) w (hG.quiet 9 _ 329 rfl (by decide) (by simp [pure43]))
    have HK := Lib.hid hfin
    clear hG pv hcl hdep hfr c10 c9 c8 c4 c3 no8 hK hfin
    go_simp
    exact HK.out
  | 11, ho =>
    simp only [ops43, List.getElem?_toArray, List.getElem?_cons_succ, List.getElem?_cons_zero, Option.some.injEq] at ho
    subst ho
    rw [if_pos (show Region.wanted _ _ = true from rfl)]
    have hfin := hK (.bool bq) w (hG.quiet 11 _ 331 rfl (by decide) (by simp [pure43]))
    have HK := Lib.hid hfin
    clear hG pv hcl hdep hfr c10 c9 c8 c4 c3 no8 hK hfin
    go_simp
    exact HK.out
  | 10, ho =>
    simp only [ops43, List.getElem?_toArray, List.getElem?_cons_succ, List.getElem?_cons_zero, Option.some.injEq] at ho
    subst ho
    rw [if_pos (show Region.wanted _ _ = true from rfl)]
    have x4 : a.tmps[324]?.getD undef = .pointer (some ⟨N + 2 * kq + 1, 0, none⟩) := pv (4, _) (by simp [pure43]) (hdep ⟨4, .data⟩ (by simp) rfl)
    have x9 : a.tmps[329]?.getD undef = .pointer (some ⟨N + 2 * kt + 1, 0, none⟩) := pv (9, _) (by simp [pure43]) (hdep ⟨9, .data⟩ (by simp) rfl)
    have hput := move_live (hL.below (hG.1 hLi)) hkq hkt bq HBQ.out
    have hfin := fun w' (hlf : Live B w0 N rm xb op kq kt s (if bq then moved F kq kt else F) F Cq Ck w') => hK (.bool bq) w' (show G43 _ _ _ _ _ _ _ from by
      obtain ⟨g1, g2, g3, g5, g6, g7⟩ := hG
      unfold G43
      rw [setL_self, setL_ne L (j := 12) (by decide), setL_ne L (j := 13) (by decide), setE_ne _ _ (t := 332) (by decide), setE_ne _ _ (t := 16) (by decide)]
      refine ⟨fun h => (by cases h), fun _ => hlf, fun p hp hl => ?_, fun _ => setE_self _ _ _, g6, g7⟩
      have hne : p.1 ≠ 10 := by intro h; simp [pure43] at hp; rcases hp with rfl | rfl | rfl | rfl | rfl | rfl | rfl | rfl | rfl | rfl | rfl <;> simp at h
      rw [setL_ne L hne] at hl
      rw [setE_ne _ _ (by omega)]; exact g3 p hp hl)
    have HK := Lib.hid hfin
    have HP := Lib.hid hput
    clear hG pv hcl hdep hfr c10 c9 c8 c4 c3 no8 hK hfin hput
    go_simp
    go_at_call 13
    refine HP.out.mono ?_
    rintro e w' ⟨rfl, hlf⟩
    exact HK.out w' hlf
  | 12, ho =>
    simp only [ops43, List.getElem?_toArray, List.getElem?_cons_succ, List.getElem?_cons_zero, Option.some.injEq] at ho
    subst ho
    rw [if_pos (show Region.wanted _ _ = true from rfl)]
    have x11 : a.tmps[331]?.getD undef = .bool bq := pv (11, _) (by simp [pure43]) (hdep ⟨11, .data⟩ (by simp) rfl)
    have x10 : a.tmps[330]?.getD undef = .bool bq := by rw [← ev]; exact hG.2.2.2.1 (hdep ⟨10, .data⟩ (by simp) rfl)
    have hfin := hK (.bool true) w (show G43 _ _ _ _ _ _ _ from by
      obtain ⟨g1, g2, g3, g5, g6, g7⟩ := hG
      unfold G43
      rw [setL_self, setL_ne L (j := 10) (by decide), setL_ne L (j := 13) (by decide), setE_ne _ _ (t := 330) (by decide), setE_ne _ _ (t := 16) (by decide)]
      refine ⟨g1, g2, fun p hp hl => ?_, g5, fun _ => setE_self _ _ _, g7⟩
      have hne : p.1 ≠ 12 := by intro h; simp [pure43] at hp; rcases hp with rfl | rfl | rfl | rfl | rfl | rfl | rfl | rfl | rfl | rfl | rfl <;> simp at h
      rw [setL_ne L hne] at hl
      rw [setE_ne _ _ (by omega)]; exact g3 p hp hl)
    have HK := Lib.hid hfin
    have hbb : (bq == bq) = true := by simp
    clear hG pv hcl hdep hfr c10 c9 c8 c4 c3 no8 hK hfin
    go_simp
    exact HK.out
  | 13, ho =>
    simp only [ops43, List.getElem?_toArray, List.getElem?_cons_succ, List.getElem?_cons_zero, Option.some.injEq] at ho
    subst ho
    rw [if_pos (show Region.wanted _ _ = true from rfl)]
    have x12 : a.tmps[332]?.getD undef = .bool true := by rw [← ev]; exact hG.2.2.2.2.1 (hdep ⟨12, .data⟩ (by simp) rfl)
    have hfin := hK (.bool true) w (show G43 _ _ _ _ _ _ _ from by
      obtain ⟨g1, g2, g3, g5, g6, g7⟩ := hG
      unfold G43
      rw [setL_self, setL_ne L (j := 10) (by decide), setL_ne L (j := 12) (by decide), setE_ne _ _ (t := 330) (by decide), setE_ne _ _ (t := 332) (by decide)]
      refine ⟨g1, g2, fun p hp hl => ?_, g5, g6, fun _ => setE_self _ _ _⟩
      have hne : p.1 ≠ 13 := by intro h; simp [pure43] at hp; rcases hp with rfl | rfl | rfl | rfl | rfl | rfl | rfl | rfl | rfl | rfl | rfl <;> simp at h
      rw [setL_ne L hne] at hl
      rw [setE_ne _ _ (by omega)]; exact g3 p hp hl)
    have HK := Lib.hid hfin
    clear hG pv hcl hdep hfr c10 c9 c8 c4 c3 no8 hK hfin
    go_simp
    exact HK.out
  | n + 14, ho => exact absurd (Array.getElem?_eq_some_iff.1 ho).1 (by show ¬ n + 14 < 14; omega)
end Go.Proofs.Ytgmimhhehmahiaa
