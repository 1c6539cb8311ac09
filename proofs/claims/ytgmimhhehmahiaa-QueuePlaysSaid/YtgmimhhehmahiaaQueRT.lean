/- QueuePlays' regions that take the mirror's first element away: w[x.Q] = w[x.Q][1:]. -/
import Derived.Test.YtgmimhhehmahiaaQueR32
namespace Go.Proofs.Ytgmimhhehmahiaa
open Go.Conc Go.RowKit
set_option linter.unusedVariables false

def GT (pure : List (Nat × Value)) (wp : World) (Fin : World → Prop) (b iS : Nat) (L : Nat → Bool) (E : Nat → Value) (w : World) : Prop :=
  (L iS = false → Below wp.heap.size wp w) ∧ (L iS = true → Fin w) ∧ ∀ p ∈ pure, L p.1 = true → E (b + p.1) = p.2
theorem GT.quiet {pure : List (Nat × Value)} {wp w : World} {Fin : World → Prop} {b iS : Nat} {L : Nat → Bool} {E : Nat → Value} (h : GT pure wp Fin b iS L E w) (i : Nat) (v : Value) (x : Nat) (hx : x = b + i) (hn : i ≠ iS) (hv : ∀ p ∈ pure, p.1 = i → v = p.2) : GT pure wp Fin b iS (setL L i) (setE E (some x) v) w := by
  subst hx
  obtain ⟨h1, h2, h3⟩ := h
  unfold GT
  rw [setL_ne L hn.symm]
  refine ⟨h1, h2, fun p hp hl => ?_⟩
  by_cases e1 : p.1 = i
  · rw [e1, setE_self]; exact hv p hp e1
  · rw [setL_ne L e1] at hl
    rw [setE_ne E v (by omega)]; exact h3 p hp hl
theorem GT.store {pure : List (Nat × Value)} {wp w w' : World} {Fin : World → Prop} {b iS : Nat} {L : Nat → Bool} {E : Nat → Value} (h : GT pure wp Fin b iS L E w) (v : Value) (hp : ∀ p ∈ pure, p.1 ≠ iS) (hf : Fin w') : GT pure wp Fin b iS (setL L iS) (setE E none v) w' := by
  obtain ⟨h1, h2, h3⟩ := h
  unfold GT
  rw [setL_self]
  refine ⟨fun c => (by cases c), fun _ => hf, fun p hq hl => ?_⟩
  rw [setL_ne L (hp p hq)] at hl
  exact h3 p hq hl
def pureT (xb N kq : Nat) (A A' : Option Addr) (n c : Nat) : List (Nat × Value) :=
  [(0, .pointer (some ⟨xb, 1, none⟩)), (1, .int .i64 kq), (2, .pointer (some ⟨xb, 1, none⟩)), (3, .int .i64 kq), (4, .pointer (some ⟨N + 7, kq, none⟩)), (5, .slice A (n + 1) c), (6, .slice A' n (c - 1)), (7, .pointer (some ⟨N + 7, kq, none⟩))]

def ops37 : Array Oper := #[
  { dst := some 270, op := Op.fieldAddr 41 (Operand.tmp 15) 1, type := 0, pos := "law.go:85", after := #[], guard := none },
  { dst := some 271, op := Op.load 3 (Operand.tmp 270), type := 3, pos := "law.go:85", after := #[{ on := 0, ground := Ground.data }], guard := none },
  { dst := some 272, op := Op.fieldAddr 41 (Operand.tmp 15) 1, type := 0, pos := "law.go:85", after := #[], guard := none },
  { dst := some 273, op := Op.load 3 (Operand.tmp 272), type := 3, pos := "law.go:85", after := #[{ on := 2, ground := Ground.data }], guard := none },
  { dst := some 274, op := Op.indexAddr 38 (Operand.tmp 12) (Operand.tmp 273), type := 0, pos := "law.go:85", after := #[{ on := 3, ground := Ground.data }], guard := none },
  { dst := some 275, op := Op.load 37 (Operand.tmp 274), type := 37, pos := "law.go:85", after := #[{ on := 4, ground := Ground.data }], guard := none },
  { dst := some 276, op := Op.slice 37 (Operand.tmp 275) (some (Operand.const (Value.int IntKind.i64 1))) none none, type := 37, pos := "law.go:85", after := #[{ on := 5, ground := Ground.data }], guard := none },
  { dst := some 277, op := Op.indexAddr 38 (Operand.tmp 12) (Operand.tmp 271), type := 0, pos := "law.go:85", after := #[{ on := 1, ground := Ground.data }, { on := 0, ground := Ground.phase }, { on := 1, ground := Ground.phase }, { on := 2, ground := Ground.phase }, { on := 3, ground := Ground.phase }, { on := 4, ground := Ground.phase }, { on := 5, ground := Ground.phase }, { on := 6, ground := Ground.phase }], guard := none },
  { dst := none, op := Op.store 37 (Operand.tmp 277) (Operand.tmp 276), type := 0, pos := "law.go:85", after := #[{ on := 7, ground := Ground.data }, { on := 6, ground := Ground.data }, { on := 0, ground := Ground.phase }, { on := 1, ground := Ground.phase }, { on := 2, ground := Ground.phase }, { on := 3, ground := Ground.phase }, { on := 4, ground := Ground.phase }, { on := 5, ground := Ground.phase }, { on := 6, ground := Ground.phase }], guard := none }]

set_option maxHeartbeats 1600000 in
set_option maxRecDepth 100000 in
theorem region37 {Q : Exit → Act → World → Prop} {a0 : Act} {B : Nat} {w0 wp : World} {N rm xb : Nat} {op : Int} {kq kt : Nat} {s : ByteArray} {r : List ByteArray} {Fq F : Nat → List ByteArray} {Cq Ck : Nat → Bool}
    (hsz : 277 < a0.tmps.size) (h12 : a0.eval (.tmp 12) = .pointer (some ⟨N + 7, 0, none⟩)) (h15 : a0.eval (.tmp 15) = .pointer (some ⟨xb, 0, none⟩))
    (hL : Live B w0 N rm xb op kq kt s Fq F Cq Ck wp) (hkq : kq < 3) {A A' : Option Addr} {c : Nat} (hrow : wp.cell? ⟨N + 7, kq, none⟩ = some (.slice A (r.length + 1) c)) (hcc : r.length + 1 ≤ c) (hcm : c ≤ maxLen)
    (hA' : ∀ W, (Instr.slice 37 (.slice A (r.length + 1) c) (some (.int .i64 1)) none none).run Try.prog W = .ok (.slice A' r.length (c - 1)) W) (hstr : Strs wp wp.heap.size A' r)
    (fin : ∀ a w', Fr [270, 271, 272, 273, 274, 275, 276, 277] a0 a → Live B w0 N rm xb op kq kt s Fq (upd F kq r) Cq Ck w' → Q .normal a w') :
    (Code.region 37 ops37 true).wp Try.prog Q a0 wp := by
  have hz := hL.inv.size
  have hxl := hL.act.lt
  have hx := hL.hx
  have hq1 : (kq : Int) < 3 := by omega
  have hq0 : (0 : Int) ≤ (kq : Int) := by omega
  refine region_inv (by kernel_rfl) [270, 271, 272, 273, 274, 275, 276, 277] (by kernel_rfl) (by kernel_rfl) (fun t ht => by simp at ht; omega)
    (GT (pureT xb N kq A A' r.length c) wp (Live B w0 N rm xb op kq kt s Fq (upd F kq r) Cq Ck) 270 8) ⟨fun _ => (Below.refl _ _).drew, fun h => (by cases h), fun _ _ h => (by cases h)⟩ ?_ (fun L a w hf hall hG => fin a w hf (hG.2.1 (hall 8 (by decide))))
  intro i oo ho L a w hfr hG hLi hdep hcl K hK
  have e12 : a.tmps[12]?.getD undef = .pointer (some ⟨N + 7, 0, none⟩) := by rw [← ev]; exact (hfr.same 12 (by decide)).trans h12
  have e15 : a.tmps[15]?.getD undef = .pointer (some ⟨xb, 0, none⟩) := by rw [← ev]; exact (hfr.same 15 (by decide)).trans h15
  have pv : ∀ p ∈ pureT xb N kq A A' r.length c, L p.1 = true → a.tmps[270 + p.1]?.getD undef = p.2 := fun p hp hl => by rw [← ev]; exact hG.2.2 p hp hl
  have hlast : i < 8 → L 8 = false := fun h13 => last_false (n := 8) (by kernel_rfl) hcl h13 hLi
  have hbel : i < 8 → Below wp.heap.size wp w := fun h => hG.1 (hlast h)
  match i, ho with
  | 0, ho =>
    simp only [ops37, List.getElem?_toArray, List.getElem?_cons_zero, Option.some.injEq] at ho
    subst ho
    rw [if_pos (show Region.wanted _ _ = true from rfl)]
    have hfin := hK (.pointer (some ⟨xb, 1, none⟩)) w (hG.quiet 0 _ 270 rfl (by decide) (by simp [pureT]))
    have HK := Lib.hid hfin
    clear hG pv hcl hdep hfr hlast hbel hstr hK hfin
    go_simp
    exact HK.out
  | 1, ho =>
    simp only [ops37, List.getElem?_toArray, List.getElem?_cons_succ, List.getElem?_cons_zero, Option.some.injEq] at ho
    subst ho
    rw [if_pos (show Region.wanted _ _ = true from rfl)]
    have x0 : a.tmps[270]?.getD undef = .pointer (some ⟨xb, 1, none⟩) := pv (0, _) (by simp [pureT]) (hdep ⟨0, .data⟩ (by simp) rfl)
    have hc : w.cell? ⟨xb, 1, none⟩ = some (.int .i64 kq) := ((hbel (by decide)).cell (p := ⟨xb, 1, none⟩) (by show xb < _; omega)).trans (hL.act.x1)
    have hfin := hK (.int .i64 kq) w (hG.quiet 1 _ 271 rfl (by decide) (by simp [pureT]))
    have HK := Lib.hid hfin
    clear hG pv hcl hdep hfr hlast hbel hstr hK hfin
    go_simp
    exact HK.out
  | 2, ho =>
    simp only [ops37, List.getElem?_toArray, List.getElem?_cons_succ, List.getElem?_cons_zero, Option.some.injEq] at ho
    subst ho
    rw [if_pos (show Region.wanted _ _ = true from rfl)]
    have hfin := hK (.pointer (some ⟨xb, 1, none⟩)) w (hG.quiet 2 _ 272 rfl (by decide) (by simp [pureT]))
    have HK := Lib.hid hfin
    clear hG pv hcl hdep hfr hlast hbel hstr hK hfin
    go_simp
    exact HK.out
  | 3, ho =>
    simp only [ops37, List.getElem?_toArray, List.getElem?_cons_succ, List.getElem?_cons_zero, Option.some.injEq] at ho
    subst ho
    rw [if_pos (show Region.wanted _ _ = true from rfl)]
    have x2 : a.tmps[272]?.getD undef = .pointer (some ⟨xb, 1, none⟩) := pv (2, _) (by simp [pureT]) (hdep ⟨2, .data⟩ (by simp) rfl)
    have hc : w.cell? ⟨xb, 1, none⟩ = some (.int .i64 kq) := ((hbel (by decide)).cell (p := ⟨xb, 1, none⟩) (by show xb < _; omega)).trans (hL.act.x1)
    have hfin := hK (.int .i64 kq) w (hG.quiet 3 _ 273 rfl (by decide) (by simp [pureT]))
    have HK := Lib.hid hfin
    clear hG pv hcl hdep hfr hlast hbel hstr hK hfin
    go_simp
    exact HK.out
  | 4, ho =>
    simp only [ops37, List.getElem?_toArray, List.getElem?_cons_succ, List.getElem?_cons_zero, Option.some.injEq] at ho
    subst ho
    rw [if_pos (show Region.wanted _ _ = true from rfl)]
    have x3 : a.tmps[273]?.getD undef = .int .i64 kq := pv (3, _) (by simp [pureT]) (hdep ⟨3, .data⟩ (by simp) rfl)
    have hfin := hK (.pointer (some ⟨N + 7, kq, none⟩)) w (hG.quiet 4 _ 274 rfl (by decide) (by simp [pureT]))
    have HK := Lib.hid hfin
    clear hG pv hcl hdep hfr hlast hbel hstr hK hfin
    go_simp
    exact HK.out
  | 5, ho =>
    simp only [ops37, List.getElem?_toArray, List.getElem?_cons_succ, List.getElem?_cons_zero, Option.some.injEq] at ho
    subst ho
    rw [if_pos (show Region.wanted _ _ = true from rfl)]
    have x4 : a.tmps[274]?.getD undef = .pointer (some ⟨N + 7, kq, none⟩) := pv (4, _) (by simp [pureT]) (hdep ⟨4, .data⟩ (by simp) rfl)
    have hc : w.cell? ⟨N + 7, kq, none⟩ = some (.slice A (r.length + 1) c) := ((hbel (by decide)).cell (p := ⟨N + 7, kq, none⟩) (by show N + 7 < _; omega)).trans (hrow)
    have hfin := hK (.slice A (r.length + 1) c) w (hG.quiet 5 _ 275 rfl (by decide) (by simp [pureT]))
    have HK := Lib.hid hfin
    clear hG pv hcl hdep hfr hlast hbel hstr hK hfin
    go_simp
    exact HK.out
  | 6, ho =>
    simp only [ops37, List.getElem?_toArray, List.getElem?_cons_succ, List.getElem?_cons_zero, Option.some.injEq] at ho
    subst ho
    rw [if_pos (show Region.wanted _ _ = true from rfl)]
    have x5 : a.tmps[275]?.getD undef = .slice A (r.length + 1) c := pv (5, _) (by simp [pureT]) (hdep ⟨5, .data⟩ (by simp) rfl)
    have hfin := hK ((.slice A' r.length (c - 1) : Value)) w (hG.quiet 6 _ 276 rfl (by decide) (by simp [pureT]))
    have HK := Lib.hid hfin
    clear hG pv hcl hdep hfr hlast hbel hstr hK hfin
    go_simp
    exact HK.out
  | 7, ho =>
    simp only [ops37, List.getElem?_toArray, List.getElem?_cons_succ, List.getElem?_cons_zero, Option.some.injEq] at ho
    subst ho
    rw [if_pos (show Region.wanted _ _ = true from rfl)]
    have x1 : a.tmps[271]?.getD undef = .int .i64 kq := pv (1, _) (by simp [pureT]) (hdep ⟨1, .data⟩ (by simp) rfl)
    have hfin := hK (.pointer (some ⟨N + 7, kq, none⟩)) w (hG.quiet 7 _ 277 rfl (by decide) (by simp [pureT]))
    have HK := Lib.hid hfin
    clear hG pv hcl hdep hfr hlast hbel hstr hK hfin
    go_simp
    exact HK.out
  | 8, ho =>
    simp only [ops37, List.getElem?_toArray, List.getElem?_cons_succ, List.getElem?_cons_zero, Option.some.injEq] at ho
    subst ho
    rw [if_pos (show Region.wanted _ _ = true from rfl)]
    have x7 : a.tmps[277]?.getD undef = .pointer (some ⟨N + 7, kq, none⟩) := pv (7, _) (by simp [pureT]) (hdep ⟨7, .data⟩ (by simp) rfl)
    have x6 : a.tmps[276]?.getD undef = (.slice A' r.length (c - 1) : Value) := pv (6, _) (by simp [pureT]) (hdep ⟨6, .data⟩ (by simp) rfl)
    have hbw : Below wp.heap.size wp w := hG.1 hLi
    have hlive := (hL.below hbw).putRow hkq (A := A') (n := r.length) (cap := c - 1) (l := r) rfl (by omega) (Nat.le_trans (Nat.sub_le _ _) hcm) ((hstr.below hbw (Nat.le_refl _)).mono hbw.size)
    have hcell : w.cell? ⟨N + 7, kq, none⟩ = some (.slice A (r.length + 1) c) := (hbw.cell (p := ⟨N + 7, kq, none⟩) (by show N + 7 < _; omega)).trans hrow
    have hfree : w.frozen? ⟨N + 7, kq, none⟩ = false := (hbw.frozen (p := ⟨N + 7, kq, none⟩) (by show N + 7 < _; omega)).trans (hL.inv.rowf kq hkq)
    have hfin := hK undef _ (hG.store undef (by simp [pureT]) hlive)
    have HK := Lib.hid hfin
    clear hG pv hcl hdep hfr hlast hbel hstr hK hfin hlive hrow
    go_simp
    exact HK.out
  | n + 9, ho => exact absurd (Array.getElem?_eq_some_iff.1 ho).1 (by show ¬ n + 9 < 9; omega)
def ops46 : Array Oper := #[
  { dst := some 351, op := Op.fieldAddr 41 (Operand.tmp 15) 1, type := 0, pos := "law.go:95", after := #[], guard := none },
  { dst := some 352, op := Op.load 3 (Operand.tmp 351), type := 3, pos := "law.go:95", after := #[{ on := 0, ground := Ground.data }], guard := none },
  { dst := some 353, op := Op.fieldAddr 41 (Operand.tmp 15) 1, type := 0, pos := "law.go:95", after := #[], guard := none },
  { dst := some 354, op := Op.load 3 (Operand.tmp 353), type := 3, pos := "law.go:95", after := #[{ on := 2, ground := Ground.data }], guard := none },
  { dst := some 355, op := Op.indexAddr 38 (Operand.tmp 12) (Operand.tmp 354), type := 0, pos := "law.go:95", after := #[{ on := 3, ground := Ground.data }], guard := none },
  { dst := some 356, op := Op.load 37 (Operand.tmp 355), type := 37, pos := "law.go:95", after := #[{ on := 4, ground := Ground.data }], guard := none },
  { dst := some 357, op := Op.slice 37 (Operand.tmp 356) (some (Operand.const (Value.int IntKind.i64 1))) none none, type := 37, pos := "law.go:95", after := #[{ on := 5, ground := Ground.data }], guard := none },
  { dst := some 358, op := Op.indexAddr 38 (Operand.tmp 12) (Operand.tmp 352), type := 0, pos := "law.go:95", after := #[{ on := 1, ground := Ground.data }, { on := 0, ground := Ground.phase }, { on := 1, ground := Ground.phase }, { on := 2, ground := Ground.phase }, { on := 3, ground := Ground.phase }, { on := 4, ground := Ground.phase }, { on := 5, ground := Ground.phase }, { on := 6, ground := Ground.phase }], guard := none },
  { dst := none, op := Op.store 37 (Operand.tmp 358) (Operand.tmp 357), type := 0, pos := "law.go:95", after := #[{ on := 7, ground := Ground.data }, { on := 6, ground := Ground.data }, { on := 0, ground := Ground.phase }, { on := 1, ground := Ground.phase }, { on := 2, ground := Ground.phase }, { on := 3, ground := Ground.phase }, { on := 4, ground := Ground.phase }, { on := 5, ground := Ground.phase }, { on := 6, ground := Ground.phase }], guard := none }]

set_option maxHeartbeats 1600000 in
set_option maxRecDepth 100000 in
theorem region46 {Q : Exit → Act → World → Prop} {a0 : Act} {B : Nat} {w0 wp : World} {N rm xb : Nat} {op : Int} {kq kt : Nat} {s : ByteArray} {r : List ByteArray} {Fq F : Nat → List ByteArray} {Cq Ck : Nat → Bool}
    (hsz : 358 < a0.tmps.size) (h12 : a0.eval (.tmp 12) = .pointer (some ⟨N + 7, 0, none⟩)) (h15 : a0.eval (.tmp 15) = .pointer (some ⟨xb, 0, none⟩))
    (hL : Live B w0 N rm xb op kq kt s Fq F Cq Ck wp) (hkq : kq < 3) {A A' : Option Addr} {c : Nat} (hrow : wp.cell? ⟨N + 7, kq, none⟩ = some (.slice A (r.length + 1) c)) (hcc : r.length + 1 ≤ c) (hcm : c ≤ maxLen)
    (hA' : ∀ W, (Instr.slice 37 (.slice A (r.length + 1) c) (some (.int .i64 1)) none none).run Try.prog W = .ok (.slice A' r.length (c - 1)) W) (hstr : Strs wp wp.heap.size A' r)
    (fin : ∀ a w', Fr [351, 352, 353, 354, 355, 356, 357, 358] a0 a → Live B w0 N rm xb op kq kt s Fq (upd F kq r) Cq Ck w' → Q .normal a w') :
    (Code.region 46 ops46 true).wp Try.prog Q a0 wp := by
  have hz := hL.inv.size
  have hxl := hL.act.lt
  have hx := hL.hx
  have hq1 : (kq : Int) < 3 := by omega
  have hq0 : (0 : Int) ≤ (kq : Int) := by omega
  refine region_inv (by kernel_rfl) [351, 352, 353, 354, 355, 356, 357, 358] (by kernel_rfl) (by kernel_rfl) (fun t ht => by simp at ht; omega)
    (GT (pureT xb N kq A A' r.length c) wp (Live B w0 N rm xb op kq kt s Fq (upd F kq r) Cq Ck) 351 8) ⟨fun _ => (Below.refl _ _).drew, fun h => (by cases h), fun _ _ h => (by cases h)⟩ ?_ (fun L a w hf hall hG => fin a w hf (hG.2.1 (hall 8 (by decide))))
  intro i oo ho L a w hfr hG hLi hdep hcl K hK
  have e12 : a.tmps[12]?.getD undef = .pointer (some ⟨N + 7, 0, none⟩) := by rw [← ev]; exact (hfr.same 12 (by decide)).trans h12
  have e15 : a.tmps[15]?.getD undef = .pointer (some ⟨xb, 0, none⟩) := by rw [← ev]; exact (hfr.same 15 (by decide)).trans h15
  have pv : ∀ p ∈ pureT xb N kq A A' r.length c, L p.1 = true → a.tmps[351 + p.1]?.getD undef = p.2 := fun p hp hl => by rw [← ev]; exact hG.2.2 p hp hl
  have hlast : i < 8 → L 8 = false := fun h13 => last_false (n := 8) (by kernel_rfl) hcl h13 hLi
  have hbel : i < 8 → Below wp.heap.size wp w := fun h => hG.1 (hlast h)
  match i, ho with
  | 0, ho =>
    simp only [ops46, List.getElem?_toArray, List.getElem?_cons_zero, Option.some.injEq] at ho
    subst ho
    rw [if_pos (show Region.wanted _ _ = true from rfl)]
    have hfin := hK (.pointer (some ⟨xb, 1, none⟩)) w (hG.quiet 0 _ 351 rfl (by decide) (by simp [pureT]))
    have HK := Lib.hid hfin
    clear hG pv hcl hdep hfr hlast hbel hstr hK hfin
    go_simp
    exact HK.out
  | 1, ho =>
    simp only [ops46, List.getElem?_toArray, List.getElem?_cons_succ, List.getElem?_cons_zero, Option.some.injEq] at ho
    subst ho
    rw [if_pos (show Region.wanted _ _ = true from rfl)]
    have x0 : a.tmps[351]?.getD undef = .pointer (some ⟨xb, 1, none⟩) := pv (0, _) (by simp [pureT]) (hdep ⟨0, .data⟩ (by simp) rfl)
    have hc : w.cell? ⟨xb, 1, none⟩ = some (.int .i64 kq) := ((hbel (by decide)).cell (p := ⟨xb, 1, none⟩) (by show xb < _; omega)).trans (hL.act.x1)
    have hfin := hK (.int .i64 kq) w (hG.quiet 1 _ 352 rfl (by decide) (by simp [pureT]))
    have HK := Lib.hid hfin
    clear hG pv hcl hdep hfr hlast hbel hstr hK hfin
    go_simp
    exact HK.out
  | 2, ho =>
    simp only [ops46, List.getElem?_toArray, List.getElem?_cons_succ, List.getElem?_cons_zero, Option.some.injEq] at ho
    subst ho
    rw [if_pos (show Region.wanted _ _ = true from rfl)]
    have hfin := hK (.pointer (some ⟨xb, 1, none⟩)) w (hG.quiet 2 _ 353 rfl (by decide) (by simp [pureT]))
    have HK := Lib.hid hfin
    clear hG pv hcl hdep hfr hlast hbel hstr hK hfin
    go_simp
    exact HK.out
  | 3, ho =>
    simp only [ops46, List.getElem?_toArray, List.getElem?_cons_succ, List.getElem?_cons_zero, Option.some.injEq] at ho
    subst ho
    rw [if_pos (show Region.wanted _ _ = true from rfl)]
    have x2 : a.tmps[353]?.getD undef = .pointer (some ⟨xb, 1, none⟩) := pv (2, _) (by simp [pureT]) (hdep ⟨2, .data⟩ (by simp) rfl)
    have hc : w.cell? ⟨xb, 1, none⟩ = some (.int .i64 kq) := ((hbel (by decide)).cell (p := ⟨xb, 1, none⟩) (by show xb < _; omega)).trans (hL.act.x1)
    have hfin := hK (.int .i64 kq) w (hG.quiet 3 _ 354 rfl (by decide) (by simp [pureT]))
    have HK := Lib.hid hfin
    clear hG pv hcl hdep hfr hlast hbel hstr hK hfin
    go_simp
    exact HK.out
  | 4, ho =>
    simp only [ops46, List.getElem?_toArray, List.getElem?_cons_succ, List.getElem?_cons_zero, Option.some.injEq] at ho
    subst ho
    rw [if_pos (show Region.wanted _ _ = true from rfl)]
    have x3 : a.tmps[354]?.getD undef = .int .i64 kq := pv (3, _) (by simp [pureT]) (hdep ⟨3, .data⟩ (by simp) rfl)
    have hfin := hK (.pointer (some ⟨N + 7, kq, none⟩)) w (hG.quiet 4 _ 355 rfl (by decide) (by simp [pureT]))
    have HK := Lib.hid hfin
    clear hG pv hcl hdep hfr hlast hbel hstr hK hfin
    go_simp
    exact HK.out
  | 5, ho =>
    simp only [ops46, List.getElem?_toArray, List.getElem?_cons_succ, List.getElem?_cons_zero, Option.some.injEq] at ho
    subst ho
    rw [if_pos (show Region.wanted _ _ = true from rfl)]
    have x4 : a.tmps[355]?.getD undef = .pointer (some ⟨N + 7, kq, none⟩) := pv (4, _) (by simp [pureT]) (hdep ⟨4, .data⟩ (by simp) rfl)
    have hc : w.cell? ⟨N + 7, kq, none⟩ = some (.slice A (r.length + 1) c) := ((hbel (by decide)).cell (p := ⟨N + 7, kq, none⟩) (by show N + 7 < _; omega)).trans (hrow)
    have hfin := hK (.slice A (r.length + 1) c) w (hG.quiet 5 _ 356 rfl (by decide) (by simp [pureT]))
    have HK := Lib.hid hfin
    clear hG pv hcl hdep hfr hlast hbel hstr hK hfin
    go_simp
    exact HK.out
  | 6, ho =>
    simp only [ops46, List.getElem?_toArray, List.getElem?_cons_succ, List.getElem?_cons_zero, Option.some.injEq] at ho
    subst ho
    rw [if_pos (show Region.wanted _ _ = true from rfl)]
    have x5 : a.tmps[356]?.getD undef = .slice A (r.length + 1) c := pv (5, _) (by simp [pureT]) (hdep ⟨5, .data⟩ (by simp) rfl)
    have hfin := hK ((.slice A' r.length (c - 1) : Value)) w (hG.quiet 6 _ 357 rfl (by decide) (by simp [pureT]))
    have HK := Lib.hid hfin
    clear hG pv hcl hdep hfr hlast hbel hstr hK hfin
    go_simp
    exact HK.out
  | 7, ho =>
    simp only [ops46, List.getElem?_toArray, List.getElem?_cons_succ, List.getElem?_cons_zero, Option.some.injEq] at ho
    subst ho
    rw [if_pos (show Region.wanted _ _ = true from rfl)]
    have x1 : a.tmps[352]?.getD undef = .int .i64 kq := pv (1, _) (by simp [pureT]) (hdep ⟨1, .data⟩ (by simp) rfl)
    have hfin := hK (.pointer (some ⟨N + 7, kq, none⟩)) w (hG.quiet 7 _ 358 rfl (by decide) (by simp [pureT]))
    have HK := Lib.hid hfin
    clear hG pv hcl hdep hfr hlast hbel hstr hK hfin
    go_simp
    exact HK.out
  | 8, ho =>
    simp only [ops46, List.getElem?_toArray, List.getElem?_cons_succ, List.getElem?_cons_zero, Option.some.injEq] at ho
    subst ho
    rw [if_pos (show Region.wanted _ _ = true from rfl)]
    have x7 : a.tmps[358]?.getD undef = .pointer (some ⟨N + 7, kq, none⟩) := pv (7, _) (by simp [pureT]) (hdep ⟨7, .data⟩ (by simp) rfl)
    have x6 : a.tmps[357]?.getD undef = (.slice A' r.length (c - 1) : Value) := pv (6, _) (by simp [pureT]) (hdep ⟨6, .data⟩ (by simp) rfl)
    have hbw : Below wp.heap.size wp w := hG.1 hLi
    have hlive := (hL.below hbw).putRow hkq (A := A') (n := r.length) (cap := c - 1) (l := r) rfl (by omega) (Nat.le_trans (Nat.sub_le _ _) hcm) ((hstr.below hbw (Nat.le_refl _)).mono hbw.size)
    have hcell : w.cell? ⟨N + 7, kq, none⟩ = some (.slice A (r.length + 1) c) := (hbw.cell (p := ⟨N + 7, kq, none⟩) (by show N + 7 < _; omega)).trans hrow
    have hfree : w.frozen? ⟨N + 7, kq, none⟩ = false := (hbw.frozen (p := ⟨N + 7, kq, none⟩) (by show N + 7 < _; omega)).trans (hL.inv.rowf kq hkq)
    have hfin := hK undef _ (hG.store undef (by simp [pureT]) hlive)
    have HK := Lib.hid hfin
    clear hG pv hcl hdep hfr hlast hbel hstr hK hfin hlive hrow
    go_simp
    exact HK.out
  | n + 9, ho => exact absurd (Array.getElem?_eq_some_iff.1 ho).1 (by show ¬ n + 9 < 9; omega)
end Go.Proofs.Ytgmimhhehmahiaa
