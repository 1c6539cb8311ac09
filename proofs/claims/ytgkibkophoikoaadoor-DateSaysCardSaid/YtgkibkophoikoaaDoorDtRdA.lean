/- DtRd12, DtRDay: these texts in one. -/
import Derived.Test.YtgkibkophoikoaaDoorVals
import Derived.Test.YtgkibkophoikoaaDoorAppend
import Derived.WalkKit
import Derived.WalkSpells
import Derived.WalkLawsBesides
import Derived.Lib.Hide
import Derived.Test.YtgkibkophoikoaaDoorDtRuA
import Derived.Test.YtgkibkophoikoaaDoorDtRTwo
import Derived.Test.YtgkibkophoikoaaDoorDtDayW
import Derived.Test.YtgkibkophoikoaaDoorRFold
import Derived.Test.YtgkibkophoikoaaDoorRCut
import Derived.Test.YtgkibkophoikoaaDoorRNum
namespace Go.Proofs.YtgkibkophoikoaaDoor
open Go.RowKit
set_option linter.unusedVariables false
set_option linter.unusedSimpArgs false

def opsRd12 : Array Oper := #[
  { dst := some 57, op := Op.call { callee := Callee.value (Operand.func 39), args := #[], argTypes := #[] }, type := 62, pos := "ref.go:500", after := #[], guard := none },
  { dst := some 58, op := Op.move (Operand.tmp 10), type := 3, pos := "ref.go:500", after := #[], guard := none },
  { dst := some 59, op := Op.indexAddr 62 (Operand.tmp 57) (Operand.tmp 58), type := 0, pos := "ref.go:500", after := #[{ on := 0, ground := Ground.data }, { on := 1, ground := Ground.data }], guard := none },
  { dst := some 60, op := Op.load 9 (Operand.tmp 59), type := 9, pos := "ref.go:500", after := #[{ on := 2, ground := Ground.data }], guard := none },
  { dst := some 61, op := Op.move (Operand.tmp 4), type := 62, pos := "ref.go:500", after := #[], guard := none },
  { dst := some 62, op := Op.indexAddr 62 (Operand.tmp 61) (Operand.const (Value.int IntKind.i64 1)), type := 0, pos := "ref.go:500", after := #[{ on := 4, ground := Ground.data }], guard := none },
  { dst := some 63, op := Op.load 9 (Operand.tmp 62), type := 9, pos := "ref.go:500", after := #[{ on := 5, ground := Ground.data }], guard := none },
  { dst := some 64, op := Op.call { callee := Callee.value (Operand.func 41), args := #[Operand.tmp 60, Operand.tmp 63], argTypes := #[9, 9] }, type := 4, pos := "ref.go:500", after := #[{ on := 3, ground := Ground.data }, { on := 6, ground := Ground.data }, { on := 0, ground := Ground.chain }], guard := none }]

def rd12Vals (g gl k cl : Nat) (mn bs : ByteArray) (r : Bool) : List (Nat × Nat × Value) := [(1, 58, .int .i64 (k : Int)), (2, 59, .pointer (some ⟨g, k, none⟩)), (3, 60, .string mn), (4, 61, .slice (some ⟨gl, 0, none⟩) 3 cl), (5, 62, .pointer (some ⟨gl, 1, none⟩)), (6, 63, .string bs)]
def rd12C : List (Nat × Nat) := [(0, 57), (7, 64)]

set_option maxHeartbeats 4000000 in
set_option maxRecDepth 100000 in
theorem rd12 {Q : Exit → Act → World → Prop} {a0 : Act} {wp : World} (g gl k cl : Nat) (mn bs : ByteArray) (r : Bool) (S : Nat → (Nat → Value) → World → Prop)
    (hsz : 64 < a0.tmps.size) (in4 : a0.eval (.tmp 4) = .slice (some ⟨gl, 0, none⟩) 3 cl) (in10 : a0.eval (.tmp 10) = .int .i64 (k : Int))
    (hm : ∀ p R w, S p R w → 0 < p → w.cell? ⟨g, k, none⟩ = some (.string mn)) (hl : ∀ p R w, S p R w → w.cell? ⟨gl, 1, none⟩ = some (.string bs))
    (k2 : k < 12)
    (hv : ∀ p R w, S p R w → 0 < p → R 0 = .slice (some ⟨g, 0, none⟩) 12 12)
    (f0 : ∀ R w, S 0 R w → Calls Tryd.prog 39 #[] w fun e w' => ∃ v, e = .returned v ∧ S 1 (setR R 0 v) w')
    (f1 : ∀ R w, S 1 R w → Calls Tryd.prog 41 #[.string mn, .string bs] w fun e w' => ∃ v, e = .returned v ∧ S 2 (setR R 1 v) w')
    (hS : S 0 (resOf rd12C fun t => a0.eval (.tmp t)) wp.drew)
    (fin : ∀ a w, Fr [57, 58, 59, 60, 61, 62, 63, 64] a0 a → S 2 (resOf rd12C fun t => a.eval (.tmp t)) w → Q .normal a w) :
    (Code.region 12 opsRd12 true).wp Tryd.prog Q a0 wp := by
  refine region_inv (by kernel_rfl) [57, 58, 59, 60, 61, 62, 63, 64] (by kernel_rfl) (by kernel_rfl) (fun t ht => by simp at ht; omega) (GV (rd12Vals g gl k cl mn bs r) rd12C S) (.start hS) ?_
    (fun L a w hf hall hG => fin a w hf  (hG.fin (fun c hc => by simp [rd12C] at hc; rcases hc with rfl | rfl <;> exact hall _ (by decide))))
  clear hS fin
  intro ix oo ho L a w hfr hG hLi hdep hcl K hK
  have e4 : a.tmps[4]?.getD undef = .slice (some ⟨gl, 0, none⟩) 3 cl := by rw [← ev]; exact (hfr.same 4 (by decide)).trans in4
  have e10 : a.tmps[10]?.getD undef = .int .i64 (k : Int) := by rw [← ev]; exact (hfr.same 10 (by decide)).trans in10
  clear in4 in10
  match ix, ho with
  | 0, ho =>
    simp only [opsRd12, List.getElem?_toArray, List.getElem?_cons_zero, Option.some.injEq] at ho
    subst ho
    rw [if_pos (show Region.wanted _ _ = true from rfl)]
    have hSj := hG.at 0 (0, 57) rfl hLi (fun c h0 hc => absurd h0 (by decide))
    have hfin := fun v w' hs => hK v w' (hG.call 0 (0, 57) rfl hLi (fun c h0 hc => absurd h0 (by decide)) (by kernel_rfl) v w' hs)
    have HK := Lib.hid hfin
    generalize (resOf rd12C fun t => a.eval (.tmp t)) = R at *
    clear hG hcl hdep hfr hK hfin hLi
    have hcc := Lib.hid (f0 _ _ hSj)
    clear hSj k2 hm hl hv f0 f1
    go_simp
    go_at_call 39
    refine hcc.out.mono ?_
    rintro e w' ⟨v, rfl, hs⟩
    exact HK.out v w' hs
  | 1, ho =>
    simp only [opsRd12, List.getElem?_toArray, List.getElem?_cons_succ, List.getElem?_cons_zero, Option.some.injEq] at ho
    subst ho
    rw [if_pos (show Region.wanted _ _ = true from rfl)]
    obtain ⟨ph, hSp, hdone⟩ := hG.any
    have hfin := hK (.int .i64 (k : Int)) w (hG.quiet 0 1 58 _ rfl (by kernel_rfl) (by kernel_rfl))
    have HK := Lib.hid hfin
    generalize (resOf rd12C fun t => a.eval (.tmp t)) = R at *
    clear k2 hm hl hv f0 f1
    clear hSp hdone
    clear hG hcl hdep hfr hK hfin hLi 
    go_simp
    exact HK.out
  | 2, ho =>
    simp only [opsRd12, List.getElem?_toArray, List.getElem?_cons_succ, List.getElem?_cons_zero, Option.some.injEq] at ho
    subst ho
    have x58 : a.tmps[58]?.getD undef = .int .i64 (k : Int) := by rw [← ev]; exact hG.val 0 1 58 _ rfl (hdep ⟨1, .data⟩ (by simp) rfl)
    rw [if_pos (show Region.wanted _ _ = true from rfl)]
    obtain ⟨ph, hSp, hdone⟩ := hG.any
    have hd57 : 0 < ph := hdone 0 (0, 57) rfl (hdep ⟨0, .data⟩ (by simp) rfl)
    have r57 : a.tmps[57]?.getD undef = resOf rd12C (fun t => a.eval (.tmp t)) 0 := by rw [← ev]; exact (resOf_at (C := rd12C) (j := 0) rfl a).symm
    have hfin := hK (.pointer (some ⟨g, k, none⟩)) w (hG.quiet 1 2 59 _ rfl (by kernel_rfl) (by kernel_rfl))
    have HK := Lib.hid hfin
    generalize (resOf rd12C fun t => a.eval (.tmp t)) = R at *
    rw [hv _ _ _ hSp hd57] at r57
    clear hd57 hm hl hv f0 f1
    have k3 : (k : Int) < 12 := by omega
    have k4 : (0 : Int) ≤ (k : Int) := by omega
    clear hSp hdone
    clear hG hcl hdep hfr hK hfin hLi 
    go_simp
    exact HK.out
  | 3, ho =>
    simp only [opsRd12, List.getElem?_toArray, List.getElem?_cons_succ, List.getElem?_cons_zero, Option.some.injEq] at ho
    subst ho
    have x59 : a.tmps[59]?.getD undef = .pointer (some ⟨g, k, none⟩) := by rw [← ev]; exact hG.val 1 2 59 _ rfl (hdep ⟨2, .data⟩ (by simp) rfl)
    rw [if_pos (show Region.wanted _ _ = true from rfl)]
    obtain ⟨ph, hSp, hdone⟩ := hG.any
    have hfin := hK (.string mn) w (hG.quiet 2 3 60 _ rfl (by kernel_rfl) (by kernel_rfl))
    have HK := Lib.hid hfin
    generalize (resOf rd12C fun t => a.eval (.tmp t)) = R at *
    have hd0 : 0 < ph := hdone 0 (0, 57) rfl (hcl 2 _ rfl (hdep ⟨2, .data⟩ (by simp) rfl) ⟨0, .data⟩ (by simp [opsRd12]) rfl)
    have q0 := hm _ _ _ hSp hd0
    clear hd0 k2 hm hl hv f0 f1
    clear hSp hdone
    clear hG hcl hdep hfr hK hfin hLi 
    go_simp
    exact HK.out
  | 4, ho =>
    simp only [opsRd12, List.getElem?_toArray, List.getElem?_cons_succ, List.getElem?_cons_zero, Option.some.injEq] at ho
    subst ho
    rw [if_pos (show Region.wanted _ _ = true from rfl)]
    obtain ⟨ph, hSp, hdone⟩ := hG.any
    have hfin := hK (.slice (some ⟨gl, 0, none⟩) 3 cl) w (hG.quiet 3 4 61 _ rfl (by kernel_rfl) (by kernel_rfl))
    have HK := Lib.hid hfin
    generalize (resOf rd12C fun t => a.eval (.tmp t)) = R at *
    clear k2 hm hl hv f0 f1
    clear hSp hdone
    clear hG hcl hdep hfr hK hfin hLi 
    go_simp
    exact HK.out
  | 5, ho =>
    simp only [opsRd12, List.getElem?_toArray, List.getElem?_cons_succ, List.getElem?_cons_zero, Option.some.injEq] at ho
    subst ho
    have x61 : a.tmps[61]?.getD undef = .slice (some ⟨gl, 0, none⟩) 3 cl := by rw [← ev]; exact hG.val 3 4 61 _ rfl (hdep ⟨4, .data⟩ (by simp) rfl)
    rw [if_pos (show Region.wanted _ _ = true from rfl)]
    obtain ⟨ph, hSp, hdone⟩ := hG.any
    have hfin := hK (.pointer (some ⟨gl, 1, none⟩)) w (hG.quiet 4 5 62 _ rfl (by kernel_rfl) (by kernel_rfl))
    have HK := Lib.hid hfin
    generalize (resOf rd12C fun t => a.eval (.tmp t)) = R at *
    clear k2 hm hl hv f0 f1
    clear hSp hdone
    clear hG hcl hdep hfr hK hfin hLi 
    go_simp
    exact HK.out
  | 6, ho =>
    simp only [opsRd12, List.getElem?_toArray, List.getElem?_cons_succ, List.getElem?_cons_zero, Option.some.injEq] at ho
    subst ho
    have x62 : a.tmps[62]?.getD undef = .pointer (some ⟨gl, 1, none⟩) := by rw [← ev]; exact hG.val 4 5 62 _ rfl (hdep ⟨5, .data⟩ (by simp) rfl)
    rw [if_pos (show Region.wanted _ _ = true from rfl)]
    obtain ⟨ph, hSp, hdone⟩ := hG.any
    have hfin := hK (.string bs) w (hG.quiet 5 6 63 _ rfl (by kernel_rfl) (by kernel_rfl))
    have HK := Lib.hid hfin
    generalize (resOf rd12C fun t => a.eval (.tmp t)) = R at *
    have q0 := hl _ _ _ hSp
    clear k2 hm hl hv f0 f1
    clear hSp hdone
    clear hG hcl hdep hfr hK hfin hLi 
    go_simp
    exact HK.out
  | 7, ho =>
    simp only [opsRd12, List.getElem?_toArray, List.getElem?_cons_succ, List.getElem?_cons_zero, Option.some.injEq] at ho
    subst ho
    have x60 : a.tmps[60]?.getD undef = .string mn := by rw [← ev]; exact hG.val 2 3 60 _ rfl (hdep ⟨3, .data⟩ (by simp) rfl)
    have x63 : a.tmps[63]?.getD undef = .string bs := by rw [← ev]; exact hG.val 5 6 63 _ rfl (hdep ⟨6, .data⟩ (by simp) rfl)
    rw [if_pos (show Region.wanted _ _ = true from rfl)]
    have hSj := hG.at 1 (7, 64) rfl hLi (fun c h0 hc => by simp [rd12C] at hc; subst hc; exact hdep ⟨0, .chain⟩ (by simp) rfl)
    have hfin := fun v w' hs => hK v w' (hG.call 1 (7, 64) rfl hLi (fun c h0 hc => by simp [rd12C] at hc; subst hc; exact hdep ⟨0, .chain⟩ (by simp) rfl) (by kernel_rfl) v w' hs)
    have HK := Lib.hid hfin
    generalize (resOf rd12C fun t => a.eval (.tmp t)) = R at *
    clear hG hcl hdep hfr hK hfin hLi
    have hcc := Lib.hid (f1 _ _ hSj)
    clear hSj k2 hm hl hv f0 f1
    go_simp
    go_at_call 41
    refine hcc.out.mono ?_
    rintro e w' ⟨v, rfl, hs⟩
    exact HK.out v w' hs
  | n + 8, ho => exact absurd (Array.getElem?_eq_some_iff.1 ho).1 (by show ¬ n + 8 < 8; omega)
end Go.Proofs.YtgkibkophoikoaaDoor

namespace Go.Proofs.YtgkibkophoikoaaDoor
open Go.RowKit
set_option linter.unusedVariables false
set_option maxRecDepth 100000

/-- The month found so far. -/
def mk (t : List UInt8) (k : Nat) : Nat := if Dt.mon t ≤ k then Dt.mon t else 0
theorem mk_zero (t : List UInt8) : mk t 0 = 0 := by unfold mk; split <;> omega
theorem mk_yes {t : List UInt8} {k : Nat} (hk : k < 12) (h : Dt.fits (k + 1) t = true) : mk t (k + 1) = k + 1 := by
  have := Dt.mon_of (by omega) (by omega) h
  unfold mk
  rw [this, if_pos (Nat.le_refl _)]
theorem mk_no {t : List UInt8} {k : Nat} (h : Dt.fits (k + 1) t = false) : mk t (k + 1) = mk t k := by
  have : Dt.mon t ≠ k + 1 := fun e => by
    have := (Dt.mon_fits (by omega) e).2
    rw [this] at h; cases h
  unfold mk
  by_cases h1 : Dt.mon t ≤ k
  · rw [if_pos h1, if_pos (by omega)]
  · rw [if_neg h1, if_neg (by omega)]
theorem mk_12 (t : List UInt8) : mk t 12 = Dt.mon t := by unfold mk; rw [if_pos (Dt.mon_le t)]

set_option maxHeartbeats 6400000 in
theorem rday_any (s : ByteArray) (w : World) (hs : s.size ≤ 1000000) : Calls Tryd.prog 16 #[.string s] w (DayREnd s.data.toList w) := by
  have HCUT := Lib.hid (rcut_any s 45 w hs)
  go_enter Tryd.func16, Tryd.ntmps16
  go_wp2_with fail
  refine HCUT.out.mono ?_
  rintro e w1 ⟨A, m, c, P, rfl, hm, hP, hown, hb1⟩
  have HB1 := Lib.hid hb1
  have HP := Lib.hid hP
  have HM := Lib.hid hm
  have HOWN := Lib.hid hown
  clear hb1 hP hown hm
  by_cases h3 : m = 3
  case neg =>
    have b1 : ((m : Int) != 3) = true := by rw [bne_iff_ne]; omega
    have HN : Hid (Dt.DayR s.data.toList none) := Lib.hid (Dt.DayR.few (by rw [← HP.out, List.length_map, ← HM.out]; exact h3))
    clear h3
    go_wp2
    go_ret2
    exact ⟨none, HN.out, rfl, HB1.out⟩
  have b1 : ((m : Int) != 3) = false := by rw [bne_eq_false_iff_eq]; omega
  obtain ⟨gl, cap, ev, hgb, hgs, _, _⟩ := own_form HOWN.out (by rw [h3]; decide)
  obtain rfl : A = some ⟨gl, 0, none⟩ := by injection ev
  obtain ⟨pa, pb, pc, hPP⟩ : ∃ pa pb pc, P = [pa, pb, pc] := by
    have := HM.out
    rw [h3] at this
    match P, this with
    | [pa, pb, pc], _ => exact ⟨pa, pb, pc, rfl⟩
  have hcell := World.ownsRow.cells HOWN.out (g := gl) rfl
  rw [hPP] at hcell
  have HLC : Hid (∀ W, Below w1.heap.size w1 W → W.cell? ⟨gl, 0, none⟩ = some (.string pa) ∧ W.cell? ⟨gl, 1, none⟩ = some (.string pb) ∧ W.cell? ⟨gl, 2, none⟩ = some (.string pc)) := Lib.hid (fun W hb => by
    have g0 := hcell 0 (.string pa) rfl
    have g1 := hcell 1 (.string pb) rfl
    have g2 := hcell 2 (.string pc) rfl
    rw [add_to, Nat.zero_add] at g0 g1 g2
    exact ⟨(hb.cell (p := ⟨gl, 0, none⟩) hgs).trans g0, (hb.cell (p := ⟨gl, 1, none⟩) hgs).trans g1, (hb.cell (p := ⟨gl, 2, none⟩) hgs).trans g2⟩)
  have HPARTS : Hid (Sq.parts 45 s.data.toList = [pa.data.toList, pb.data.toList, pc.data.toList]) := Lib.hid (by rw [← HP.out, hPP]; rfl)
  have hpsz : ∀ x ∈ [pa.data.toList, pb.data.toList, pc.data.toList], x.length ≤ 1000000 := fun x hx => by
    rw [← HPARTS.out] at hx
    have := part_le 45 _ x hx
    have h1 : s.data.toList.length = s.size := rfl
    omega
  have za : pa.size ≤ 1000000 := hpsz pa.data.toList (by simp)
  have zb : pb.size ≤ 1000000 := hpsz pb.data.toList (by simp)
  have zc : pc.size ≤ 1000000 := hpsz pc.data.toList (by simp)
  have HGS := Lib.hid hgs
  obtain ⟨q0, q1, q2⟩ := HLC.out w1 (Below.refl _ _)
  subst h3
  clear ev hcell hpsz hgb hgs hPP HOWN HM HP b1
  have la : pa.data.toList.length = pa.size := rfl
  have lc : pc.data.toList.length = pc.size := rfl
  by_cases ha2 : 2 < pa.size
  case pos =>
    have b2 : (2 : Int) < (pa.size : Int) := by omega
    have HN : Hid (Dt.DayR s.data.toList none) := Lib.hid (Dt.DayR.parts_no HPARTS.out (.inl (by rw [la]; exact ha2)))
    clear ha2 la lc
    go_wp2
    go_ret2
    exact ⟨none, HN.out, rfl, HB1.out⟩
  have b2 : ¬ (2 : Int) < (pa.size : Int) := by omega
  by_cases hc4 : pc.size = 4
  case neg =>
    have b3 : ((pc.size : Int) != 4) = true := by rw [bne_iff_ne]; omega
    have HN : Hid (Dt.DayR s.data.toList none) := Lib.hid (Dt.DayR.parts_no HPARTS.out (.inr (.inl (by rw [lc]; exact hc4))))
    clear ha2 hc4 la lc
    go_wp2
    go_ret2
    exact ⟨none, HN.out, rfl, HB1.out⟩
  have b3 : ((pc.size : Int) != 4) = false := by rw [bne_eq_false_iff_eq]; omega
  have HC4 := Lib.hid (lc.trans hc4)
  have HA2 := Lib.hid (show pa.data.toList.length ≤ 2 by omega)
  clear ha2 hc4 la lc
  have HNA := Lib.hid (rnum_any pa w1 (by unfold maxLen; omega))
  have HNC := Lib.hid (rnum_any pc w1 (by unfold maxLen; omega))
  go_wp2_with fail
  refine HNA.out.mono ?_
  rintro e w2 ⟨rfl, rfl⟩
  cases hoa : Oct.numOk pa.data.toList with
  | false =>
    have HN : Hid (Dt.DayR s.data.toList none) := Lib.hid (Dt.DayR.parts_no HPARTS.out (.inr (.inr (.inl hoa))))
    rw [numVal_no _ hoa]
    clear hoa
    go_wp2_with fail
    refine HNC.out.mono ?_
    rintro e w2 ⟨rfl, rfl⟩
    cases hoc : Oct.numOk pc.data.toList with
    | false =>
      rw [numVal_no _ hoc]
      go_wp2
      go_ret2
      exact ⟨none, HN.out, rfl, HB1.out⟩
    | true =>
      rw [numVal_yes _ hoc]
      go_wp2
      go_ret2
      exact ⟨none, HN.out, rfl, HB1.out⟩
  | true =>
  rw [numVal_yes _ hoa]
  go_wp2_with fail
  refine HNC.out.mono ?_
  rintro e w2 ⟨rfl, rfl⟩
  cases hoc : Oct.numOk pc.data.toList with
  | false =>
    have HN : Hid (Dt.DayR s.data.toList none) := Lib.hid (Dt.DayR.parts_no HPARTS.out (.inr (.inr (.inr (.inl hoc)))))
    rw [numVal_no _ hoc]
    go_wp2
    go_ret2
    exact ⟨none, HN.out, rfl, HB1.out⟩
  | true =>
  rw [numVal_yes _ hoc]
  obtain ⟨ya, Hya⟩ : ∃ ya, Hid (ya = Oct.numTo pc.data.toList) := ⟨_, Lib.hid rfl⟩
  obtain ⟨ka, Hka⟩ : ∃ ka, Hid (ka = Oct.numTo pa.data.toList) := ⟨_, Lib.hid rfl⟩
  rw [← Hya.out, ← Hka.out]
  obtain ⟨md, Hmd⟩ : ∃ md, Hid (md = Dt.mon pb.data.toList) := ⟨_, Lib.hid rfl⟩
  have HNO : Hid (¬ Dt.GDay (ya : Int) (md : Int) (ka : Int) → Dt.DayR s.data.toList none) := Lib.hid (fun h => Dt.DayR.parts_no HPARTS.out (.inr (.inr (.inr (.inr (by rw [← Hya.out, ← Hmd.out, ← Hka.out]; exact h))))))
  have HYES : Hid (Dt.GDay (ya : Int) (md : Int) (ka : Int) → Dt.DayR s.data.toList (some (Dt.num ya md ka))) := Lib.hid (fun h => by
    have := Dt.DayR.parts_yes HPARTS.out HA2.out HC4.out hoa hoc (by rw [← Hya.out, ← Hmd.out, ← Hka.out]; exact h)
    rw [← Hya.out, ← Hmd.out, ← Hka.out] at this
    exact this)
  obtain ⟨w3, Hw3⟩ : ∃ w3, Hid (w3 = w1.alloc (.cells #[.int .i64 (ya : Int), .int .i64 0, .int .i64 (ka : Int), .int .i64 0, .int .i64 0, .int .i64 0, .int .i64 0] 33)) := ⟨_, Lib.hid rfl⟩
  have HB13 : Hid (Below w1.heap.size w1 w3) := Lib.hid (by rw [Hw3.out]; exact (Below.refl _ _).alloc (Nat.le_refl _) _)
  have HG3 : Hid (Blk w3 w1.heap.size 33 #[.int .i64 (ya : Int), .int .i64 0, .int .i64 (ka : Int), .int .i64 0, .int .i64 0, .int .i64 0, .int .i64 0]) := Lib.hid (by rw [Hw3.out]; exact Blk.new w1 _ _)
  have HSM := Lib.hid (fun (a b : ByteArray) (W : World) (ha : a.size ≤ maxLen) (hb : b.size ≤ maxLen) => rsame_any a b W ha hb)
  clear hoa hoc q0 q1 q2 HNA HNC
  go_wp2
  rw [← Hw3.out]
  go_loopw [10] (fun s10 wr => ∃ k : Nat, k ≤ 12 ∧ s10 = .int .i64 k ∧ Hid (Blk wr w1.heap.size 33 #[.int .i64 (ya : Int), .int .i64 (mk pb.data.toList k : Int), .int .i64 (ka : Int), .int .i64 0, .int .i64 0, .int .i64 0, .int .i64 0]) ∧ Hid (Below w1.heap.size w1 wr)) (fun s10 _ => 12 - (intOf s10).toNat)
  case atStart => exact ⟨0, Nat.zero_le _, rfl, Lib.hid (by rw [mk_zero]; exact HG3.out), HB13⟩
  case round =>
    obtain ⟨k, hk, rfl, HGr, HBr⟩ := hrel
    by_cases hlt : k < 12
    · obtain ⟨mn, Hmn⟩ : ∃ mn : ByteArray, Hid (mn = ⟨(Dt.mname (k + 1)).toArray⟩) := ⟨_, Lib.hid rfl⟩
      have hmz : mn.size ≤ maxLen := by
        have h1 : mn.data.toList.length = mn.size := rfl
        rw [Hmn.out] at h1
        have h2 := Dt.mname_len (k + 1)
        simp only at h1
        rw [Hmn.out]
        unfold maxLen
        omega
      obtain ⟨r, Hr⟩ : ∃ r, Hid (r = Dt.fits (k + 1) pb.data.toList) := ⟨_, Lib.hid rfl⟩
      have HSR : Hid ((Oct.fold mn.data.toList == Oct.fold pb.data.toList) = r) := Lib.hid (by rw [Hr.out, Hmn.out]; rfl)
      have hkz : (k : Int) < 12 := by omega
      go_wp2
      refine rd12 wr.heap.size gl k c mn pb r (fun p R W => Below wr.heap.size wr W ∧ (0 < p → Blk W wr.heap.size 9 mcells ∧ R 0 = .slice (some ⟨wr.heap.size, 0, none⟩) 12 12) ∧ (1 < p → R 1 = .bool r) ∧ (p = 0 → W.heap.size = wr.heap.size)) (by show 64 < 78; omega) rfl rfl ?_ ?_ hlt (fun p R W h hp => (h.2.1 hp).2) ?_ ?_ ⟨(Below.refl _ _).drew, fun h => absurd h (by decide), fun h => absurd h (by decide), fun _ => rfl⟩ ?_
      · intro p R W h hp
        rw [Hmn.out]
        exact (h.2.1 hp).1.cell k _ (mcells_at k hlt)
      · intro p R W h
        exact (HLC.out W (HBr.out.trans (h.1.mono HBr.out.size))).2.1
      · intro R W h
        have hz := h.2.2.2 rfl
        refine (rmonths_any W).mono ?_
        rintro e w' ⟨rfl, hm, hb⟩
        rw [hz] at hm hb ⊢
        exact ⟨_, rfl, h.1.trans hb, fun _ => ⟨hm, setR_self _ _ _⟩, fun h => absurd h (by decide), fun h => by cases h⟩
      · intro R W h
        refine (HSM.out mn pb W hmz (by unfold maxLen; omega)).mono ?_
        rintro e w' ⟨rfl, hb⟩
        rw [HSR.out]
        exact ⟨_, rfl, h.1.trans (hb.mono h.1.size), fun _ => ⟨(h.2.1 (by decide)).1.below hb (h.2.1 (by decide)).1.lt, by rw [setR_ne _ _ (by decide)]; exact (h.2.1 (by decide)).2⟩, fun _ => setR_self _ _ _, fun h => by cases h⟩
      · intro af wN hfr hS
        have h64 : af.eval (.tmp 64) = .bool r := hS.2.2.1 (by decide)
        have HBN := Lib.hid (HBr.out.trans (hS.1.mono HBr.out.size))
        have HGN := Lib.hid (HGr.out.below hS.1 HGr.out.lt)
        clear hS
        have ha := hfr.eq (by intro t ht; simp at ht; show t < 78; omega)
        simp only [List.foldl_cons, List.foldl_nil] at ha
        clear hfr
        generalize af.eval (.tmp 57) = u57 at ha
        generalize af.eval (.tmp 58) = u58 at ha
        generalize af.eval (.tmp 59) = u59 at ha
        generalize af.eval (.tmp 60) = u60 at ha
        generalize af.eval (.tmp 61) = u61 at ha
        generalize af.eval (.tmp 62) = u62 at ha
        generalize af.eval (.tmp 63) = u63 at ha
        rw [h64] at ha
        clear h64
        subst ha
        simp only [Act.put, List.setIfInBounds_toArray, List.set_cons_zero, List.set_cons_succ]
        have y1 := HGN.out.frozen 1
        have x1 := HGN.out.cell 1 _ rfl
        cases r with
        | true =>
          have HG2 := Lib.hid (HGN.out.set 1 (.int .i64 ((k : Int) + 1)))
          have HMK : Hid ((mk pb.data.toList (k + 1) : Int) = (k : Int) + 1) := Lib.hid (by rw [mk_yes hlt Hr.out.symm]; rfl)
          have HB2 := Lib.hid (below_set HBN.out (Nat.le_refl _) 1 (.int .i64 ((k : Int) + 1)))
          go_wp2
          go_roundw
          case rel => exact ⟨k + 1, by omega, by go_num, Lib.hid (by rw [HMK.out]; exact HG2.out), HB2⟩
          case measure => simp [intOf]; omega
        | false =>
          have HMK : Hid (mk pb.data.toList (k + 1) = mk pb.data.toList k) := Lib.hid (mk_no Hr.out.symm)
          go_wp2
          go_roundw
          case rel => exact ⟨k + 1, by omega, by go_num, Lib.hid (by rw [HMK.out]; exact HGN.out), HBN⟩
          case measure => simp [intOf]; omega
    · obtain rfl : k = 12 := by omega
      have hg := HGr.out
      rw [mk_12, ← Hmd.out] at hg
      have HG := Lib.hid hg
      have HBW := Lib.hid (HB1.out.trans (HBr.out.mono HB1.out.size))
      obtain ⟨x0, x1, x2, x3, x4, x5, x6⟩ : wr.cell? ⟨w1.heap.size, 0, none⟩ = some (.int .i64 (ya : Int)) ∧ wr.cell? ⟨w1.heap.size, 1, none⟩ = some (.int .i64 (md : Int)) ∧ wr.cell? ⟨w1.heap.size, 2, none⟩ = some (.int .i64 (ka : Int)) ∧ wr.cell? ⟨w1.heap.size, 3, none⟩ = some (.int .i64 0) ∧ wr.cell? ⟨w1.heap.size, 4, none⟩ = some (.int .i64 0) ∧ wr.cell? ⟨w1.heap.size, 5, none⟩ = some (.int .i64 0) ∧ wr.cell? ⟨w1.heap.size, 6, none⟩ = some (.int .i64 0) :=
        ⟨hg.cell 0 _ rfl, hg.cell 1 _ rfl, hg.cell 2 _ rfl, hg.cell 3 _ rfl, hg.cell 4 _ rfl, hg.cell 5 _ rfl, hg.cell 6 _ rfl⟩
      clear hg
      by_cases hm0 : md = 0
      · have c0 : ((md : Int) == 0) = true := by rw [beq_iff_eq]; omega
        have HN := Lib.hid (HNO.out (fun h => by have := h.2.2.1; omega))
        clear hm0
        go_wp2
        go_ret2
        exact ⟨none, HN.out, rfl, HBW.out⟩
      have c0 : ((md : Int) == 0) = false := by rw [beq_eq_false_iff_ne]; omega
      have hgd : Dt.Good ⟨(ya : Int), (md : Int), (ka : Int), 0, 0, 0, 0⟩ ↔ Dt.GDay (ya : Int) (md : Int) (ka : Int) := ⟨fun h => h.1, fun h => ⟨h, ⟨by show (0 : Int) ≤ 0; decide, by show (0 : Int) ≤ 23; decide⟩, ⟨by show (0 : Int) ≤ 0; decide, by show (0 : Int) ≤ 59; decide⟩, ⟨by show (0 : Int) ≤ 0; decide, by show (0 : Int) ≤ 59; decide⟩, ⟨by show (-1439 : Int) ≤ 0; decide, by show (0 : Int) ≤ 1439; decide⟩⟩⟩
      have HRG := Lib.hid (rgood_any (ya : Int) (md : Int) (ka : Int) 0 0 0 0 wr)
      by_cases hg : Dt.GDay (ya : Int) (md : Int) (ka : Int)
      case neg =>
        have HD := Lib.hid (decide_eq_false (fun h => hg (hgd.1 h)))
        have HN := Lib.hid (HNO.out hg)
        clear hg hgd
        go_wp2_with fail
        refine HRG.out.mono ?_
        rintro e w5 ⟨rfl, hb5⟩
        rw [HD.out]
        have HB5 := Lib.hid (HBW.out.trans (hb5.mono HBW.out.size))
        clear hb5
        go_wp2
        go_ret2
        exact ⟨none, HN.out, rfl, HB5.out⟩
      have HD := Lib.hid (decide_eq_true (hgd.2 hg))
      have HY := Lib.hid (HYES.out hg)
      obtain ⟨a1, a2, a3, a4, a5, a6⟩ := hg
      simp only [Int.toNat_natCast] at a6
      have hdm := (Dt.dm_pos ya md).2
      have HRD := Lib.hid (rdn_any ya md ka 0 0 0 0 (Dt.num ya md ka : Int) rfl (by omega) (by omega) (by omega) (by omega) (by omega) (by omega))
      clear a1 a2 a3 a4 a5 a6 hdm hgd
      go_wp2_with fail
      refine HRG.out.mono ?_
      rintro e w5 ⟨rfl, hb5⟩
      rw [HD.out]
      have HB5 := Lib.hid (HBW.out.trans (hb5.mono HBW.out.size))
      have HG5 := HG.out.below hb5 HG.out.lt
      clear hb5 x0 x1 x2 x3 x4 x5 x6
      have x0 := HG5.cell 0 _ rfl
      have x1 := HG5.cell 1 _ rfl
      have x2 := HG5.cell 2 _ rfl
      have x3 := HG5.cell 3 _ rfl
      have x4 := HG5.cell 4 _ rfl
      have x5 := HG5.cell 5 _ rfl
      have x6 := HG5.cell 6 _ rfl
      go_wp2_with fail
      refine (HRD.out w5).mono ?_
      rintro e w6 ⟨rfl, hb6⟩
      have HB6 := Lib.hid (HB5.out.trans (hb6.mono HB5.out.size))
      clear hb6 x0 x1 x2 x3 x4 x5 x6
      go_wp2
      go_ret2
      exact ⟨some _, HY.out, rfl, HB6.out⟩
end Go.Proofs.YtgkibkophoikoaaDoor
