/- QueuePlays' region of Put: w[x.Q] = append(append([]string{}, w[x.Q]...), x.B). -/
import Derived.Test.YtgmimhhehmahiaaQueMir
namespace Go.Proofs.Ytgmimhhehmahiaa
open Go.Conc Go.RowKit
set_option linter.unusedVariables false

def ops32 : Array Oper := #[
  { dst := some 217, op := Op.fieldAddr 41 (Operand.tmp 15) 1, type := 0, pos := "law.go:79", after := #[], guard := none },
  { dst := some 218, op := Op.load 3 (Operand.tmp 217), type := 3, pos := "law.go:79", after := #[{ on := 0, ground := Ground.data }], guard := none },
  { dst := some 219, op := Op.buildSlice 37 0 #[], type := 37, pos := "law.go:79", after := #[], guard := none },
  { dst := some 220, op := Op.fieldAddr 41 (Operand.tmp 15) 1, type := 0, pos := "law.go:79", after := #[], guard := none },
  { dst := some 221, op := Op.load 3 (Operand.tmp 220), type := 3, pos := "law.go:79", after := #[{ on := 3, ground := Ground.data }], guard := none },
  { dst := some 222, op := Op.indexAddr 38 (Operand.tmp 12) (Operand.tmp 221), type := 0, pos := "law.go:79", after := #[{ on := 4, ground := Ground.data }], guard := none },
  { dst := some 223, op := Op.load 37 (Operand.tmp 222), type := 37, pos := "law.go:79", after := #[{ on := 5, ground := Ground.data }], guard := none },
  { dst := some 224, op := Op.call { callee := Callee.builtin Builtin.append, args := #[Operand.tmp 219, Operand.tmp 223], argTypes := #[37, 37] }, type := 37, pos := "law.go:79", after := #[{ on := 2, ground := Ground.data }, { on := 6, ground := Ground.data }], guard := none },
  { dst := some 225, op := Op.fieldAddr 41 (Operand.tmp 15) 3, type := 0, pos := "law.go:79", after := #[], guard := none },
  { dst := some 226, op := Op.load 9 (Operand.tmp 225), type := 9, pos := "law.go:79", after := #[{ on := 8, ground := Ground.data }], guard := none },
  { dst := some 227, op := Op.buildSlice 37 1 #[(0, Operand.tmp 226)], type := 37, pos := "law.go:79", after := #[{ on := 9, ground := Ground.data }], guard := none },
  { dst := some 228, op := Op.call { callee := Callee.builtin Builtin.append, args := #[Operand.tmp 224, Operand.tmp 227], argTypes := #[37, 37] }, type := 37, pos := "law.go:79", after := #[{ on := 7, ground := Ground.data }, { on := 10, ground := Ground.data }, { on := 7, ground := Ground.chain }], guard := none },
  { dst := some 229, op := Op.indexAddr 38 (Operand.tmp 12) (Operand.tmp 218), type := 0, pos := "law.go:79", after := #[{ on := 1, ground := Ground.data }, { on := 0, ground := Ground.phase }, { on := 1, ground := Ground.phase }, { on := 2, ground := Ground.phase }, { on := 3, ground := Ground.phase }, { on := 4, ground := Ground.phase }, { on := 5, ground := Ground.phase }, { on := 6, ground := Ground.phase }, { on := 7, ground := Ground.phase }, { on := 8, ground := Ground.phase }, { on := 9, ground := Ground.phase }, { on := 10, ground := Ground.phase }, { on := 11, ground := Ground.phase }], guard := none },
  { dst := none, op := Op.store 37 (Operand.tmp 229) (Operand.tmp 228), type := 0, pos := "law.go:79", after := #[{ on := 12, ground := Ground.data }, { on := 11, ground := Ground.data }, { on := 11, ground := Ground.chain }, { on := 0, ground := Ground.phase }, { on := 1, ground := Ground.phase }, { on := 2, ground := Ground.phase }, { on := 3, ground := Ground.phase }, { on := 4, ground := Ground.phase }, { on := 5, ground := Ground.phase }, { on := 6, ground := Ground.phase }, { on := 7, ground := Ground.phase }, { on := 8, ground := Ground.phase }, { on := 9, ground := Ground.phase }, { on := 10, ground := Ground.phase }, { on := 11, ground := Ground.phase }], guard := none }]

def pure32 (xb N kq : Nat) (A : Option Addr) (n c : Nat) (s : ByteArray) : List (Nat × Value) :=
  [(0, .pointer (some ⟨xb, 1, none⟩)), (1, .int .i64 kq), (3, .pointer (some ⟨xb, 1, none⟩)), (4, .int .i64 kq), (5, .pointer (some ⟨N + 7, kq, none⟩)), (6, .slice A n c), (8, .pointer (some ⟨xb, 3, none⟩)), (9, .string s), (12, .pointer (some ⟨N + 7, kq, none⟩))]

theorem ev (a : Act) (t : Nat) : a.eval (.tmp t) = a.tmps[t]?.getD undef := by simp [Act.eval]
theorem Try.infoStr : (Try.prog.info? 9).map (fun i => (i.zero, i.size, i.bytes)) = some (some (.string ⟨#[]⟩), 1, 16) := by kernel_rfl

set_option maxHeartbeats 1600000 in
set_option maxRecDepth 100000 in
theorem region32 {Q : Exit → Act → World → Prop} {a0 : Act} {B : Nat} {w0 wp : World} {N rm xb : Nat} {op : Int} {kq kt : Nat} {s : ByteArray} {Fq F : Nat → List ByteArray} {Cq Ck : Nat → Bool}
    (hsz : 229 < a0.tmps.size) (h12 : a0.eval (.tmp 12) = .pointer (some ⟨N + 7, 0, none⟩)) (h15 : a0.eval (.tmp 15) = .pointer (some ⟨xb, 0, none⟩))
    (hL : Live B w0 N rm xb op kq kt s Fq F Cq Ck wp) (hkq : kq < 3) (hlen : (F kq).length ≤ 64) {A : Option Addr} {c : Nat} (hrow : wp.cell? ⟨N + 7, kq, none⟩ = some (.slice A (F kq).length c)) (hstr : Strs wp wp.heap.size A (F kq))
    (fin : ∀ a w', Fr [217, 218, 219, 220, 221, 222, 223, 224, 225, 226, 227, 228, 229] a0 a → Live B w0 N rm xb op kq kt s Fq (upd F kq (F kq ++ [s])) Cq Ck w' → Q .normal a w') :
    (Code.region 32 ops32 true).wp Try.prog Q a0 wp := by
  have hz := hL.inv.size
  have hxl := hL.act.lt
  have hx := hL.hx
  have hq1 : (kq : Int) < 3 := by omega
  have hq0 : (0 : Int) ≤ (kq : Int) := by omega
  obtain ⟨i0, hi, hz0, hz1, hz2⟩ := info_parts Try.infoStr
  refine region_inv (by kernel_rfl) [217, 218, 219, 220, 221, 222, 223, 224, 225, 226, 227, 228, 229] (by kernel_rfl) (by kernel_rfl) (fun t ht => by simp at ht; omega)
    (GM (pure32 xb N kq A (F kq).length c s) 9 wp (F kq) s (Live B w0 N rm xb op kq kt s Fq (upd F kq (F kq ++ [s])) Cq Ck) 217 2 7 10 11 13) (GM.start (Below.refl _ _).drew) ?_ (fun L a w hf hall hG => fin a w hf (hG.2.1 (hall 13 (by decide))))
  intro i o ho L a w hfr hG hLi hdep hcl K hK
  have e12 : a.tmps[12]?.getD undef = .pointer (some ⟨N + 7, 0, none⟩) := by rw [← ev]; exact (hfr.same 12 (by decide)).trans h12
  have e15 : a.tmps[15]?.getD undef = .pointer (some ⟨xb, 0, none⟩) := by rw [← ev]; exact (hfr.same 15 (by decide)).trans h15
  have pv : ∀ p ∈ pure32 xb N kq A (F kq).length c s, L p.1 = true → a.tmps[217 + p.1]?.getD undef = p.2 := fun p hp hl => by rw [← ev]; exact hG.2.2.1 p hp hl
  have hlast : i < 13 → L 13 = false := fun h13 => last_false (n := 13) (by kernel_rfl) hcl h13 hLi
  have hbel : i < 13 → Below wp.heap.size wp w := fun h => hG.1 (hlast h)
  match i, ho with
  | 0, ho =>
    simp only [ops32, List.getElem?_toArray, List.getElem?_cons_zero, Option.some.injEq] at ho
    subst ho
    rw [if_pos (show Region.wanted _ _ = true from rfl)]
    have HF : ∀ w', Below wp.heap.size wp w' → True := fun _ _ => trivial
    have hfin := hK (.pointer (some ⟨xb, 1, none⟩)) w (hG.quiet 0 _ 217 rfl (by decide) (by simp [pure32]))
    have HK := Lib.hid hfin
    clear hG pv hcl hdep hfr hlast hbel hK hfin HF
    go_simp
    exact HK.out
  | 1, ho =>
    simp only [ops32, List.getElem?_toArray, List.getElem?_cons_succ, List.getElem?_cons_zero, Option.some.injEq] at ho
    subst ho
    rw [if_pos (show Region.wanted _ _ = true from rfl)]
    have x0 : a.tmps[217]?.getD undef = .pointer (some ⟨xb, 1, none⟩) := pv (0, _) (by simp [pure32]) (hdep ⟨0, .data⟩ (by simp) rfl)
    have hc : w.cell? ⟨xb, 1, none⟩ = some (.int .i64 kq) := ((hbel (by decide)).cell (p := ⟨xb, 1, none⟩) (by show xb < _; omega)).trans (hL.act.x1)
    have HF : ∀ w', Below wp.heap.size wp w' → True := fun _ _ => trivial
    have hfin := hK (.int .i64 kq) w (hG.quiet 1 _ 218 rfl (by decide) (by simp [pure32]))
    have HK := Lib.hid hfin
    clear hG pv hcl hdep hfr hlast hbel hK hfin HF
    go_simp
    exact HK.out
  | 3, ho =>
    simp only [ops32, List.getElem?_toArray, List.getElem?_cons_succ, List.getElem?_cons_zero, Option.some.injEq] at ho
    subst ho
    rw [if_pos (show Region.wanted _ _ = true from rfl)]
    have HF : ∀ w', Below wp.heap.size wp w' → True := fun _ _ => trivial
    have hfin := hK (.pointer (some ⟨xb, 1, none⟩)) w (hG.quiet 3 _ 220 rfl (by decide) (by simp [pure32]))
    have HK := Lib.hid hfin
    clear hG pv hcl hdep hfr hlast hbel hK hfin HF
    go_simp
    exact HK.out
  | 4, ho =>
    simp only [ops32, List.getElem?_toArray, List.getElem?_cons_succ, List.getElem?_cons_zero, Option.some.injEq] at ho
    subst ho
    rw [if_pos (show Region.wanted _ _ = true from rfl)]
    have x3 : a.tmps[220]?.getD undef = .pointer (some ⟨xb, 1, none⟩) := pv (3, _) (by simp [pure32]) (hdep ⟨3, .data⟩ (by simp) rfl)
    have hc : w.cell? ⟨xb, 1, none⟩ = some (.int .i64 kq) := ((hbel (by decide)).cell (p := ⟨xb, 1, none⟩) (by show xb < _; omega)).trans (hL.act.x1)
    have HF : ∀ w', Below wp.heap.size wp w' → True := fun _ _ => trivial
    have hfin := hK (.int .i64 kq) w (hG.quiet 4 _ 221 rfl (by decide) (by simp [pure32]))
    have HK := Lib.hid hfin
    clear hG pv hcl hdep hfr hlast hbel hK hfin HF
    go_simp
    exact HK.out
  | 5, ho =>
    simp only [ops32, List.getElem?_toArray, List.getElem?_cons_succ, List.getElem?_cons_zero, Option.some.injEq] at ho
    subst ho
    rw [if_pos (show Region.wanted _ _ = true from rfl)]
    have x4 : a.tmps[221]?.getD undef = .int .i64 kq := pv (4, _) (by simp [pure32]) (hdep ⟨4, .data⟩ (by simp) rfl)
    have HF : ∀ w', Below wp.heap.size wp w' → True := fun _ _ => trivial
    have hfin := hK (.pointer (some ⟨N + 7, kq, none⟩)) w (hG.quiet 5 _ 222 rfl (by decide) (by simp [pure32]))
    have HK := Lib.hid hfin
    clear hG pv hcl hdep hfr hlast hbel hK hfin HF
    go_simp
    exact HK.out
  | 6, ho =>
    simp only [ops32, List.getElem?_toArray, List.getElem?_cons_succ, List.getElem?_cons_zero, Option.some.injEq] at ho
    subst ho
    rw [if_pos (show Region.wanted _ _ = true from rfl)]
    have x5 : a.tmps[222]?.getD undef = .pointer (some ⟨N + 7, kq, none⟩) := pv (5, _) (by simp [pure32]) (hdep ⟨5, .data⟩ (by simp) rfl)
    have hc : w.cell? ⟨N + 7, kq, none⟩ = some (.slice A (F kq).length c) := ((hbel (by decide)).cell (p := ⟨N + 7, kq, none⟩) (by show N + 7 < _; omega)).trans (hrow)
    have HF : ∀ w', Below wp.heap.size wp w' → True := fun _ _ => trivial
    have hfin := hK (.slice A (F kq).length c) w (hG.quiet 6 _ 223 rfl (by decide) (by simp [pure32]))
    have HK := Lib.hid hfin
    clear hG pv hcl hdep hfr hlast hbel hK hfin HF
    go_simp
    exact HK.out
  | 8, ho =>
    simp only [ops32, List.getElem?_toArray, List.getElem?_cons_succ, List.getElem?_cons_zero, Option.some.injEq] at ho
    subst ho
    rw [if_pos (show Region.wanted _ _ = true from rfl)]
    have HF : ∀ w', Below wp.heap.size wp w' → True := fun _ _ => trivial
    have hfin := hK (.pointer (some ⟨xb, 3, none⟩)) w (hG.quiet 8 _ 225 rfl (by decide) (by simp [pure32]))
    have HK := Lib.hid hfin
    clear hG pv hcl hdep hfr hlast hbel hK hfin HF
    go_simp
    exact HK.out
  | 9, ho =>
    simp only [ops32, List.getElem?_toArray, List.getElem?_cons_succ, List.getElem?_cons_zero, Option.some.injEq] at ho
    subst ho
    rw [if_pos (show Region.wanted _ _ = true from rfl)]
    have x8 : a.tmps[225]?.getD undef = .pointer (some ⟨xb, 3, none⟩) := pv (8, _) (by simp [pure32]) (hdep ⟨8, .data⟩ (by simp) rfl)
    have hc : w.cell? ⟨xb, 3, none⟩ = some (.string s) := ((hbel (by decide)).cell (p := ⟨xb, 3, none⟩) (by show xb < _; omega)).trans (hL.act.x3)
    have HF : ∀ w', Below wp.heap.size wp w' → True := fun _ _ => trivial
    have hfin := hK (.string s) w (hG.quiet 9 _ 226 rfl (by decide) (by simp [pure32]))
    have HK := Lib.hid hfin
    clear hG pv hcl hdep hfr hlast hbel hK hfin HF
    go_simp
    exact HK.out
  | 12, ho =>
    simp only [ops32, List.getElem?_toArray, List.getElem?_cons_succ, List.getElem?_cons_zero, Option.some.injEq] at ho
    subst ho
    rw [if_pos (show Region.wanted _ _ = true from rfl)]
    have x1 : a.tmps[218]?.getD undef = .int .i64 kq := pv (1, _) (by simp [pure32]) (hdep ⟨1, .data⟩ (by simp) rfl)
    have HF : ∀ w', Below wp.heap.size wp w' → True := fun _ _ => trivial
    have hfin := hK (.pointer (some ⟨N + 7, kq, none⟩)) w (hG.quiet 12 _ 229 rfl (by decide) (by simp [pure32]))
    have HK := Lib.hid hfin
    clear hG pv hcl hdep hfr hlast hbel hK hfin HF
    go_simp
    exact HK.out
  | 2, ho =>
    simp only [ops32, List.getElem?_toArray, List.getElem?_cons_succ, List.getElem?_cons_zero, Option.some.injEq] at ho
    subst ho
    rw [if_pos (show Region.wanted _ _ = true from rfl)]
    have hfin := hK (.slice (some ⟨w.heap.size, 0, none⟩) 0 0) _ (hG.empty 219 rfl (by decide) (by simp [pure32]) (hlast (by decide)) _ rfl)
    have HK := Lib.hid hfin
    clear hG pv hcl hdep hfr hlast hbel hK hfin
    go_simp
    exact HK.out
  | 10, ho =>
    simp only [ops32, List.getElem?_toArray, List.getElem?_cons_succ, List.getElem?_cons_zero, Option.some.injEq] at ho
    subst ho
    rw [if_pos (show Region.wanted _ _ = true from rfl)]
    have x9 : a.tmps[226]?.getD undef = .string s := pv (9, _) (by simp [pure32]) (hdep ⟨9, .data⟩ (by simp) rfl)
    have hfin := hK (.slice (some ⟨w.heap.size, 0, none⟩) 1 1) _ (hG.one 227 rfl (by decide) (by simp [pure32]) (hlast (by decide)) _ rfl)
    have HK := Lib.hid hfin
    clear hG pv hcl hdep hfr hlast hbel hK hfin
    go_simp
    exact HK.out
  | 7, ho =>
    simp only [ops32, List.getElem?_toArray, List.getElem?_cons_succ, List.getElem?_cons_zero, Option.some.injEq] at ho
    subst ho
    have x6 : a.tmps[223]?.getD undef = .slice A (F kq).length c := pv (6, _) (by simp [pure32]) (hdep ⟨6, .data⟩ (by simp) rfl)
    have h11 : L 11 = false := by
      cases hl : L 11 with
      | false => rfl
      | true =>
        have := hcl 11 _ rfl hl ⟨7, .data⟩ (by simp [ops32]) rfl
        rw [hLi] at this; cases this
    obtain ⟨g, g1, g2, g3⟩ := hG.2.2.2.1 (hdep ⟨2, .data⟩ (by simp) rfl) hLi
    refine step_append_lit0 rfl (.tmp 219) (.tmp 223) 37 rfl wp.heap.size 9 i0 (.string ⟨#[]⟩) 16 Try.underlying37 hi hz0 hz1 hz2 rfl (sv (F kq)) (F kq).length (sv_length _)
      ⟨g, g2, g3, g1⟩ ⟨A, c, by rw [ev]; exact x6, Strs.news hstr (hbel (by decide))⟩ (sv_one _) (by unfold maxLen; omega) (by omega) (hbel (by decide)).size ?_
    intro v1 w1 hown1 hg1 hb1
    exact hK v1 w1 (hG.app1 224 rfl (by decide) (by simp [pure32]) (hlast (by decide)) h11 hown1 hg1 hb1)
  | 11, ho =>
    simp only [ops32, List.getElem?_toArray, List.getElem?_cons_succ, List.getElem?_cons_zero, Option.some.injEq] at ho
    subst ho
    have l7 := (hdep ⟨7, .data⟩ (by simp) rfl)
    have hown := hG.2.2.2.2.1 l7 hLi
    obtain ⟨g, g1, g2, g3⟩ := hG.2.2.2.2.2.1 (hdep ⟨10, .data⟩ (by simp) rfl) hLi
    refine step_append_lit1 rfl (.tmp 224) (.tmp 227) 37 rfl wp.heap.size 9 i0 (.string ⟨#[]⟩) 16 Try.underlying37 hi hz0 hz1 hz2 rfl _ (F kq).length (sv (F kq)) rfl hown s
      ⟨g, 1, 9, g2, g3⟩ (by unfold maxLen; omega) (by omega) (hbel (by decide)).size ?_
    intro v2 w2 hown2 hb2
    exact hK v2 w2 (hG.app2 228 rfl (by decide) (by simp [pure32]) (hlast (by decide)) l7 (by rw [sv_append]; exact hown2) hb2)
  | 13, ho =>
    simp only [ops32, List.getElem?_toArray, List.getElem?_cons_succ, List.getElem?_cons_zero, Option.some.injEq] at ho
    subst ho
    rw [if_pos (show Region.wanted _ _ = true from rfl)]
    have l11 := (hdep ⟨11, .data⟩ (by simp) rfl)
    have l7 := hdep ⟨7, .phase⟩ (by simp) rfl
    have x12 : a.tmps[229]?.getD undef = .pointer (some ⟨N + 7, kq, none⟩) := pv (12, _) (by simp [pure32]) (hdep ⟨12, .data⟩ (by simp) rfl)
    have hbw : Below wp.heap.size wp w := hG.1 hLi
    have hown : w.ownsRow wp.heap.size 9 1 (a.eval (.tmp 228)) ((F kq).length + 1) (sv (F kq ++ [s])) := hG.2.2.2.2.2.2 l11 hLi
    obtain ⟨A2, c2, hv, hc2, hm2⟩ := own_shape hown
    rw [hv] at hown
    obtain ⟨h2s, h2n⟩ := Strs.of_own hown
    have hlive := (hL.below hbw).putRow hkq h2n hc2 hm2 h2s
    have x11 : a.tmps[228]?.getD undef = .slice A2 ((F kq).length + 1) c2 := by rw [← ev]; exact hv
    have hcell : w.cell? ⟨N + 7, kq, none⟩ = some (.slice A (F kq).length c) := (hbw.cell (p := ⟨N + 7, kq, none⟩) (by show N + 7 < _; omega)).trans hrow
    have hfree : w.frozen? ⟨N + 7, kq, none⟩ = false := (hbw.frozen (p := ⟨N + 7, kq, none⟩) (by show N + 7 < _; omega)).trans (hL.inv.rowf kq hkq)
    have hfin := hK undef _ (hG.store undef (by decide) (by simp [pure32]) l7 l11 hlive)
    have HK := Lib.hid hfin
    clear hG pv hcl hdep hfr hlast hbel hK hfin hown hv h2s h2n hlive hrow hstr hc2 hm2 l7 l11 hlen
    go_simp
    exact HK.out
  | n + 14, ho => exact absurd (Array.getElem?_eq_some_iff.1 ho).1 (by show ¬ n + 14 < 14; omega)
end Go.Proofs.Ytgmimhhehmahiaa
