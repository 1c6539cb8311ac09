/- QueuePlays' region of Put's call: ok = q[x.Q].Put([]byte(x.B)) == may. -/
import Derived.Test.YtgmimhhehmahiaaQueR32
import Derived.Laws.IdiomStrings
namespace Go.Proofs.Ytgmimhhehmahiaa
open Go.Conc Go.RowKit
set_option linter.unusedVariables false

def ops30 : Array Oper := #[
  { dst := some 205, op := Op.move (Operand.tmp 11), type := 36, pos := "law.go:77", after := #[], guard := none },
  { dst := some 206, op := Op.fieldAddr 41 (Operand.tmp 15) 1, type := 0, pos := "law.go:77", after := #[], guard := none },
  { dst := some 207, op := Op.load 3 (Operand.tmp 206), type := 3, pos := "law.go:77", after := #[{ on := 1, ground := Ground.data }], guard := none },
  { dst := some 208, op := Op.indexAddr 36 (Operand.tmp 205) (Operand.tmp 207), type := 0, pos := "law.go:77", after := #[{ on := 0, ground := Ground.data }, { on := 2, ground := Ground.data }], guard := none },
  { dst := some 209, op := Op.load 23 (Operand.tmp 208), type := 23, pos := "law.go:77", after := #[{ on := 3, ground := Ground.data }], guard := none },
  { dst := some 210, op := Op.fieldAddr 41 (Operand.tmp 15) 3, type := 0, pos := "law.go:77", after := #[], guard := none },
  { dst := some 211, op := Op.load 9 (Operand.tmp 210), type := 9, pos := "law.go:77", after := #[{ on := 5, ground := Ground.data }], guard := none },
  { dst := some 212, op := Op.convert 9 27 (Operand.tmp 211), type := 27, pos := "law.go:77", after := #[{ on := 6, ground := Ground.data }], guard := none },
  { dst := some 213, op := Op.call { callee := Callee.value (Operand.func 11), args := #[Operand.tmp 209, Operand.tmp 212], argTypes := #[23, 27] }, type := 4, pos := "law.go:77", after := #[{ on := 4, ground := Ground.data }, { on := 7, ground := Ground.data }], guard := none },
  { dst := some 214, op := Op.move (Operand.tmp 17), type := 4, pos := "law.go:77", after := #[], guard := none },
  { dst := some 215, op := Op.binOp BinOp.eql 4 (Operand.tmp 213) (Operand.tmp 214) 4, type := 4, pos := "law.go:77", after := #[{ on := 8, ground := Ground.data }, { on := 9, ground := Ground.data }], guard := none },
  { dst := some 16, op := Op.assign (Operand.tmp 215), type := 4, pos := "law.go:77", after := #[{ on := 10, ground := Ground.data }, { on := 8, ground := Ground.chain }, { on := 0, ground := Ground.phase }, { on := 1, ground := Ground.phase }, { on := 2, ground := Ground.phase }, { on := 3, ground := Ground.phase }, { on := 4, ground := Ground.phase }, { on := 5, ground := Ground.phase }, { on := 6, ground := Ground.phase }, { on := 7, ground := Ground.phase }, { on := 8, ground := Ground.phase }, { on := 9, ground := Ground.phase }, { on := 10, ground := Ground.phase }], guard := none }]


def pure30 (xb N kq : Nat) (s : ByteArray) (bq : Bool) : List (Nat × Value) :=
  [(0, .slice (some ⟨N + 6, 0, none⟩) 3 3), (1, .pointer (some ⟨xb, 1, none⟩)), (2, .int .i64 kq), (3, .pointer (some ⟨N + 6, kq, none⟩)), (4, .pointer (some ⟨N + 2 * kq + 1, 0, none⟩)), (5, .pointer (some ⟨xb, 3, none⟩)), (6, .string s), (9, .bool bq)]

/-- The call's operands, the bytes that it is handed, what it has answered. -/
def G30 (pure : List (Nat × Value)) (wa : World) (s : ByteArray) (bq : Bool) (Fin : World → Prop) (L : Nat → Bool) (E : Nat → Value) (w : World) : Prop :=
  (L 8 = false → Below wa.heap.size wa w) ∧ (L 8 = true → Fin w) ∧ (∀ p ∈ pure, L p.1 = true → E (205 + p.1) = p.2) ∧
  (L 7 = true → L 8 = false → ∃ bk cp cp2, E 212 = .slice (some ⟨bk, 0, none⟩) s.size cp2 ∧ w.heap[bk]? = some (.cells (bytesRow s cp) 5 ((bytesRow s cp).size, (bytesRow s cp).size + 1))) ∧
  (L 8 = true → E 213 = .bool bq) ∧ (L 10 = true → E 215 = .bool true) ∧ (L 11 = true → E 16 = .bool true)
theorem G30.quiet {pure : List (Nat × Value)} {wa w : World} {s : ByteArray} {bq : Bool} {Fin : World → Prop} {L : Nat → Bool} {E : Nat → Value} (h : G30 pure wa s bq Fin L E w) (i : Nat) (v : Value) (x : Nat) (hx : x = 205 + i) (hn : i ≠ 7 ∧ i ≠ 8 ∧ i ≠ 10 ∧ i ≠ 11) (hv : ∀ p ∈ pure, p.1 = i → v = p.2) : G30 pure wa s bq Fin (setL L i) (setE E (some x) v) w := by
  subst hx
  obtain ⟨n1, n2, n3, n4⟩ := hn
  obtain ⟨h1, h2, h3, h4, h5, h6, h7⟩ := h
  unfold G30
  rw [setL_ne L n1.symm, setL_ne L n2.symm, setL_ne L n3.symm, setL_ne L n4.symm, setE_ne E v (t := 212) (by omega), setE_ne E v (t := 213) (by omega), setE_ne E v (t := 215) (by omega), setE_ne E v (t := 16) (by omega)]
  refine ⟨h1, h2, fun p hp hl => ?_, h4, h5, h6, h7⟩
  by_cases e1 : p.1 = i
  · rw [e1, setE_self]; exact hv p hp e1
  · rw [setL_ne L e1] at hl
    rw [setE_ne E v (by omega)]; exact h3 p hp hl

set_option maxHeartbeats 1600000 in
set_option maxRecDepth 100000 in
theorem region30 {Q : Exit → Act → World → Prop} {a0 : Act} {B : Nat} {w0 wp : World} {N rm xb : Nat} {op : Int} {kq kt : Nat} {s : ByteArray} {F : Nat → List ByteArray} {Cq Ck : Nat → Bool} {bq : Bool}
    (hsz : 215 < a0.tmps.size) (h11 : a0.eval (.tmp 11) = .slice (some ⟨N + 6, 0, none⟩) 3 3) (h15 : a0.eval (.tmp 15) = .pointer (some ⟨xb, 0, none⟩)) (h17 : a0.eval (.tmp 17) = .bool bq)
    (hL : Live B w0 N rm xb op kq kt s F F Cq Ck wp) (hkq : kq < 3) (hs : s.size ≤ 100) (hbq : bq = (decide ((F kq).length < rm) && !Cq kq))
    (fin : ∀ a w', Fr [205, 206, 207, 208, 209, 210, 211, 212, 213, 214, 215, 16] a0 a → a.eval (.tmp 16) = .bool true → Live B w0 N rm xb op kq kt s (if bq then upd F kq (F kq ++ [s]) else F) F Cq Ck w' → Q .normal a w') :
    (Code.region 30 ops30 true).wp Try.prog Q a0 wp := by
  have hz := hL.inv.size
  have hxl := hL.act.lt
  have hx := hL.hx
  have hq1 : (kq : Int) < 3 := by omega
  have hq0 : (0 : Int) ≤ (kq : Int) := by omega
  have HBQ := Lib.hid hbq
  clear hbq
  refine region_inv (by kernel_rfl) [205, 206, 207, 208, 209, 210, 211, 212, 213, 214, 215, 16] (by kernel_rfl) (by kernel_rfl) (fun t ht => by simp at ht; omega)
    (G30 (pure30 xb N kq s bq) wp s bq (Live B w0 N rm xb op kq kt s (if bq then upd F kq (F kq ++ [s]) else F) F Cq Ck))
    ⟨fun _ => (Below.refl _ _).drew, fun h => (by cases h), fun _ _ h => (by cases h), fun h => (by cases h), fun h => (by cases h), fun h => (by cases h), fun h => (by cases h)⟩ ?_ (fun L a w hf hall hG => fin a w hf (hG.2.2.2.2.2.2 (hall 11 (by decide))) (hG.2.1 (hall 8 (by decide))))
  intro i oo ho L a w hfr hG hLi hdep hcl K hK
  have e11 : a.tmps[11]?.getD undef = .slice (some ⟨N + 6, 0, none⟩) 3 3 := by rw [← ev]; exact (hfr.same 11 (by decide)).trans h11
  have e15 : a.tmps[15]?.getD undef = .pointer (some ⟨xb, 0, none⟩) := by rw [← ev]; exact (hfr.same 15 (by decide)).trans h15
  have e17 : a.tmps[17]?.getD undef = .bool bq := by rw [← ev]; exact (hfr.same 17 (by decide)).trans h17
  have pv : ∀ p ∈ pure30 xb N kq s bq, L p.1 = true → a.tmps[205 + p.1]?.getD undef = p.2 := fun p hp hl => by rw [← ev]; exact hG.2.2.1 p hp hl
  have c8 : L 8 = true → L 4 = true ∧ L 7 = true := fun h => ⟨hcl 8 _ rfl h ⟨4, .data⟩ (by simp [ops30]) rfl, hcl 8 _ rfl h ⟨7, .data⟩ (by simp [ops30]) rfl⟩
  have c7 : L 7 = true → L 6 = true := fun h => hcl 7 _ rfl h ⟨6, .data⟩ (by simp [ops30]) rfl
  have c4 : L 4 = true → L 3 = true := fun h => hcl 4 _ rfl h ⟨3, .data⟩ (by simp [ops30]) rfl
  have c3 : L 3 = true → L 2 = true := fun h => hcl 3 _ rfl h ⟨2, .data⟩ (by simp [ops30]) rfl
  have no8 : (i = 2 ∨ i = 4 ∨ i = 6 ∨ i = 7) → L 8 = false := fun hi => by
    cases hl : L 8 with
    | false => rfl
    | true =>
      obtain ⟨l4, l7⟩ := c8 hl
      have l6 := c7 l7
      have l2 := c3 (c4 l4)
      rcases hi with rfl | rfl | rfl | rfl
      · rw [hLi] at l2; cases l2
      · rw [hLi] at l4; cases l4
      · rw [hLi] at l6; cases l6
      · rw [hLi] at l7; cases l7
  match i, ho with
  | 0, ho =>
    simp only [ops30, List.getElem?_toArray, List.getElem?_cons_zero, Option.some.injEq] at ho
    subst ho
    rw [if_pos (show Region.wanted _ _ = true from rfl)]
    have hfin := hK (.slice (some ⟨N + 6, 0, none⟩) 3 3) w (hG.quiet 0 _ 205 rfl (by decide) (by simp [pure30]))
    have HK := Lib.hid hfin
    clear hG pv hcl hdep hfr c8 c7 c4 c3 no8 hK hfin
    go_simp
    exact HK.out
  | 1, ho =>
    simp only [ops30, List.getElem?_toArray, List.getElem?_cons_succ, List.getElem?_cons_zero, Option.some.injEq] at ho
    subst ho
    rw [if_pos (show Region.wanted _ _ = true from rfl)]
    have hfin := hK (.pointer (some ⟨xb, 1, none⟩)) w (hG.quiet 1 _ 206 rfl (by decide) (by simp [pure30]))
    have HK := Lib.hid hfin
    clear hG pv hcl hdep hfr c8 c7 c4 c3 no8 hK hfin
    go_simp
    exact HK.out
  | 2, ho =>
    simp only [ops30, List.getElem?_toArray, List.getElem?_cons_succ, List.getElem?_cons_zero, Option.some.injEq] at ho
    subst ho
    rw [if_pos (show Region.wanted _ _ = true from rfl)]
    have x1 : a.tmps[206]?.getD undef = .pointer (some ⟨xb, 1, none⟩) := pv (1, _) (by simp [pure30]) (hdep ⟨1, .data⟩ (by simp) rfl)
    have hc : w.cell? ⟨xb, 1, none⟩ = some (.int .i64 kq) := ((hG.1 (no8 (by simp))).cell (p := ⟨xb, 1, none⟩) (by show xb < _; omega)).trans (hL.act.x1)
    have hfin := hK (.int .i64 kq) w (hG.quiet 2 _ 207 rfl (by decide) (by simp [pure30]))
    have HK := Lib.hid hfin
    clear hG pv hcl hdep hfr c8 c7 c4 c3 no8 hK hfin
    go_simp
    exact HK.out
  | 3, ho =>
    simp only [ops30, List.getElem?_toArray, List.getElem?_cons_succ, List.getElem?_cons_zero, Option.some.injEq] at ho
    subst ho
    rw [if_pos (show Region.wanted _ _ = true from rfl)]
    have x0 : a.tmps[205]?.getD undef = .slice (some ⟨N + 6, 0, none⟩) 3 3 := pv (0, _) (by simp [pure30]) (hdep ⟨0, .data⟩ (by simp) rfl)
    have x2 : a.tmps[207]?.getD undef = .int .i64 kq := pv (2, _) (by simp [pure30]) (hdep ⟨2, .data⟩ (by simp) rfl)
    have hfin := hK (.pointer (some ⟨N + 6, kq, none⟩)) w (hG.quiet 3 _ 208 rfl (by decide) (by simp [pure30]))
    have HK := Lib.hid hfin
    clear hG pv hcl hdep hfr c8 c7 c4 c3 no8 hK hfin
    go_simp
    exact HK.out
  | 4, ho =>
    simp only [ops30, List.getElem?_toArray, List.getElem?_cons_succ, List.getElem?_cons_zero, Option.some.injEq] at ho
    subst ho
    rw [if_pos (show Region.wanted _ _ = true from rfl)]
    have x3 : a.tmps[208]?.getD undef = .pointer (some ⟨N + 6, kq, none⟩) := pv (3, _) (by simp [pure30]) (hdep ⟨3, .data⟩ (by simp) rfl)
    have hc : w.cell? ⟨N + 6, kq, none⟩ = some (.pointer (some ⟨N + 2 * kq + 1, 0, none⟩)) := ((hG.1 (no8 (by simp))).cell (p := ⟨N + 6, kq, none⟩) (by show N + 6 < _; omega)).trans (hL.inv.ptr kq hkq)
    have hfin := hK (.pointer (some ⟨N + 2 * kq + 1, 0, none⟩)) w (hG.quiet 4 _ 209 rfl (by decide) (by simp [pure30]))
    have HK := Lib.hid hfin
    clear hG pv hcl hdep hfr c8 c7 c4 c3 no8 hK hfin
    go_simp
    exact HK.out
  | 5, ho =>
    simp only [ops30, List.getElem?_toArray, List.getElem?_cons_succ, List.getElem?_cons_zero, Option.some.injEq] at ho
    subst ho
    rw [if_pos (show Region.wanted _ _ = true from rfl)]
    have hfin := hK (.pointer (some ⟨xb, 3, none⟩)) w (hG.quiet 5 _ 210 rfl (by decide) (by simp [pure30]))
    have HK := Lib.hid hfin
    clear hG pv hcl hdep hfr c8 c7 c4 c3 no8 hK hfin
    go_simp
    exact HK.out
  | 6, ho =>
    simp only [ops30, List.getElem?_toArray, List.getElem?_cons_succ, List.getElem?_cons_zero, Option.some.injEq] at ho
    subst ho
    rw [if_pos (show Region.wanted _ _ = true from rfl)]
    have x5 : a.tmps[210]?.getD undef = .pointer (some ⟨xb, 3, none⟩) := pv (5, _) (by simp [pure30]) (hdep ⟨5, .data⟩ (by simp) rfl)
    have hc : w.cell? ⟨xb, 3, none⟩ = some (.string s) := ((hG.1 (no8 (by simp))).cell (p := ⟨xb, 3, none⟩) (by show xb < _; omega)).trans (hL.act.x3)
    have hfin := hK (.string s) w (hG.quiet 6 _ 211 rfl (by decide) (by simp [pure30]))
    have HK := Lib.hid hfin
    clear hG pv hcl hdep hfr c8 c7 c4 c3 no8 hK hfin
    go_simp
    exact HK.out
  | 9, ho =>
    simp only [ops30, List.getElem?_toArray, List.getElem?_cons_succ, List.getElem?_cons_zero, Option.some.injEq] at ho
    subst ho
    rw [if_pos (show Region.wanted _ _ = true from rfl)]
    have hfin := hK (.bool bq) w (hG.quiet 9 _ 214 rfl (by decide) (by simp [pure30]))
    have HK := Lib.hid hfin
    clear hG pv hcl hdep hfr c8 c7 c4 c3 no8 hK hfin
    go_simp
    exact HK.out
  | 7, ho =>
    simp only [ops30, List.getElem?_toArray, List.getElem?_cons_succ, List.getElem?_cons_zero, Option.some.injEq] at ho
    subst ho
    rw [if_pos (show Region.wanted _ _ = true from rfl)]
    have x6 : a.tmps[211]?.getD undef = .string s := pv (6, _) (by simp [pure30]) (hdep ⟨6, .data⟩ (by simp) rfl)
    have h8 := no8 (by simp)
    have hcv := run_bytes_of_string (P := Try.prog) w 9 27 5 s Try.underlying9 Try.underlying27 Try.underlying5
    have hfin := fun cp cp2 w' (hw : w'.heap[w.heap.size]? = some (.cells (bytesRow s cp) 5 ((bytesRow s cp).size, (bytesRow s cp).size + 1))) (hb : Below w.heap.size w w') => hK (.slice (some ⟨w.heap.size, 0, none⟩) s.size cp2) w' (show G30 _ _ _ _ _ _ _ _ from by
      obtain ⟨g1, g2, g3, g4, g5, g6, g7⟩ := hG
      unfold G30
      rw [setL_self, setL_ne L (j := 8) (by decide), setL_ne L (j := 10) (by decide), setL_ne L (j := 11) (by decide), setE_ne _ _ (t := 213) (by decide), setE_ne _ _ (t := 215) (by decide), setE_ne _ _ (t := 16) (by decide)]
      refine ⟨fun _ => (g1 h8).trans (hb.mono (g1 h8).size), fun h => (by rw [h8] at h; cases h), fun p hp hl => ?_, fun _ _ => ⟨_, cp, cp2, setE_self _ _ _, hw⟩, g5, g6, g7⟩
      have hne : p.1 ≠ 7 := by intro h; simp [pure30] at hp; rcases hp with rfl | rfl | rfl | rfl | rfl | rfl | rfl | rfl <;> simp at h
      rw [setL_ne L hne] at hl
      rw [setE_ne _ _ (by omega)]; exact g3 p hp hl)
    have HK := Lib.hid hfin
    clear hG pv hcl hdep hfr c8 c7 c4 c3 no8 hK hfin
    go_simp
    refine HK.out (grownCap w s.size 0 5) _ _ ?_ ?_
    · exact heap_alloc_new _ _
    · exact (Below.refl _ _).drew.alloc (Nat.le_refl _) _
  | 8, ho =>
    simp only [ops30, List.getElem?_toArray, List.getElem?_cons_succ, List.getElem?_cons_zero, Option.some.injEq] at ho
    subst ho
    rw [if_pos (show Region.wanted _ _ = true from rfl)]
    have x4 : a.tmps[209]?.getD undef = .pointer (some ⟨N + 2 * kq + 1, 0, none⟩) := pv (4, _) (by simp [pure30]) (hdep ⟨4, .data⟩ (by simp) rfl)
    obtain ⟨bk, cp, cp2, hE, hbk⟩ := hG.2.2.2.1 (hdep ⟨7, .data⟩ (by simp) rfl) hLi
    have x7 : a.tmps[212]?.getD undef = .slice (some ⟨bk, 0, none⟩) s.size cp2 := by rw [← ev]; exact hE
    have hput := put_live (hL.below (hG.1 hLi)) hkq hs bk cp cp2 hbk bq HBQ.out
    have hfin := fun w' (hlf : Live B w0 N rm xb op kq kt s (if bq then upd F kq (F kq ++ [s]) else F) F Cq Ck w') => hK (.bool bq) w' (show G30 _ _ _ _ _ _ _ _ from by
      obtain ⟨g1, g2, g3, g4, g5, g6, g7⟩ := hG
      unfold G30
      rw [setL_self, setL_ne L (j := 7) (by decide), setL_ne L (j := 10) (by decide), setL_ne L (j := 11) (by decide), setE_ne _ _ (t := 212) (by decide), setE_ne _ _ (t := 215) (by decide), setE_ne _ _ (t := 16) (by decide)]
      refine ⟨fun h => (by cases h), fun _ => hlf, fun p hp hl => ?_, fun _ h => (by cases h), fun _ => setE_self _ _ _, g6, g7⟩
      have hne : p.1 ≠ 8 := by intro h; simp [pure30] at hp; rcases hp with rfl | rfl | rfl | rfl | rfl | rfl | rfl | rfl <;> simp at h
      rw [setL_ne L hne] at hl
      rw [setE_ne _ _ (by omega)]; exact g3 p hp hl)
    have HK := Lib.hid hfin
    have HP := Lib.hid hput
    clear hG pv hcl hdep hfr c8 c7 c4 c3 no8 hK hfin hput hE
    go_simp
    go_at_call 11
    refine HP.out.mono ?_
    rintro e w' ⟨rfl, hlf⟩
    exact HK.out w' hlf
  | 10, ho =>
    simp only [ops30, List.getElem?_toArray, List.getElem?_cons_succ, List.getElem?_cons_zero, Option.some.injEq] at ho
    subst ho
    rw [if_pos (show Region.wanted _ _ = true from rfl)]
    have x9 : a.tmps[214]?.getD undef = .bool bq := pv (9, _) (by simp [pure30]) (hdep ⟨9, .data⟩ (by simp) rfl)
    have x8 : a.tmps[213]?.getD undef = .bool bq := by rw [← ev]; exact hG.2.2.2.2.1 (hdep ⟨8, .data⟩ (by simp) rfl)
    have hfin := hK (.bool true) w (show G30 _ _ _ _ _ _ _ _ from by
      obtain ⟨g1, g2, g3, g4, g5, g6, g7⟩ := hG
      unfold G30
      rw [setL_self, setL_ne L (j := 7) (by decide), setL_ne L (j := 8) (by decide), setL_ne L (j := 11) (by decide), setE_ne _ _ (t := 212) (by decide), setE_ne _ _ (t := 213) (by decide), setE_ne _ _ (t := 16) (by decide)]
      refine ⟨g1, g2, fun p hp hl => ?_, g4, g5, fun _ => setE_self _ _ _, g7⟩
      have hne : p.1 ≠ 10 := by intro h; simp [pure30] at hp; rcases hp with rfl | rfl | rfl | rfl | rfl | rfl | rfl | rfl <;> simp at h
      rw [setL_ne L hne] at hl
      rw [setE_ne _ _ (by omega)]; exact g3 p hp hl)
    have HK := Lib.hid hfin
    have hbb : (bq == bq) = true := by simp
    clear hG pv hcl hdep hfr c8 c7 c4 c3 no8 hK hfin
    go_simp
    exact HK.out
  | 11, ho =>
    simp only [ops30, List.getElem?_toArray, List.getElem?_cons_succ, List.getElem?_cons_zero, Option.some.injEq] at ho
    subst ho
    rw [if_pos (show Region.wanted _ _ = true from rfl)]
    have x10 : a.tmps[215]?.getD undef = .bool true := by rw [← ev]; exact hG.2.2.2.2.2.1 (hdep ⟨10, .data⟩ (by simp) rfl)
    have hfin := hK (.bool true) w (show G30 _ _ _ _ _ _ _ _ from by
      obtain ⟨g1, g2, g3, g4, g5, g6, g7⟩ := hG
      unfold G30
      rw [setL_self, setL_ne L (j := 7) (by decide), setL_ne L (j := 8) (by decide), setL_ne L (j := 10) (by decide), setE_ne _ _ (t := 212) (by decide), setE_ne _ _ (t := 213) (by decide), setE_ne _ _ (t := 215) (by decide)]
      refine ⟨g1, g2, fun p hp hl => ?_, g4, g5, g6, fun _ => setE_self _ _ _⟩
      have hne : p.1 ≠ 11 ∧ p.1 < 10 := by simp [pure30] at hp; rcases hp with rfl | rfl | rfl | rfl | rfl | rfl | rfl | rfl <;> simp
      rw [setL_ne L hne.1] at hl
      rw [setE_ne _ _ (by omega)]; exact g3 p hp hl)
    have HK := Lib.hid hfin
    clear hG pv hcl hdep hfr c8 c7 c4 c3 no8 hK hfin
    go_simp
    exact HK.out
  | n + 12, ho => exact absurd (Array.getElem?_eq_some_iff.1 ho).1 (by show ¬ n + 12 < 12; omega)
end Go.Proofs.Ytgmimhhehmahiaa
