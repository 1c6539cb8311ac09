/- What the rows' listed variables give date's walks. -/
import Derived.Test.YtgkibkophoikoaaDoorDtFold
import Derived.Test.YtgkibkophoikoaaDoorDtShow
import Derived.Test.YtgkibkophoikoaaDoorRows
import Derived.Lib.LaidTab
import Derived.Lib.LaidU8
import Derived.Lib.LaidCase
import Derived.PinnedBridge
import Derived.ChangeBears2
import Derived.Stop.LaidErr
namespace Go.Proofs.YtgkibkophoikoaaDoor
open Go.RowKit Go.ChangeShapes
set_option linter.unusedVariables false
set_option maxRecDepth 100000

theorem dpow_eq : (Rows.laid_internal_strconv_uint64pow10 : DataW Unit) = Lib.tabData .u64 Lib.pow10Tab := by kernel_rfl
theorem dpow_g : Tryd.prog.globalNamed "internal/strconv.uint64pow10" = some 5 := by kernel_rfl
theorem dpow_t : (Tryd.prog.globals[5]?).map (·.type) = some 99 := by kernel_rfl
theorem dpow_c : Tryd.prog.cellsOf 99 = 20 := by kernel_rfl
theorem dpow_e : Tryd.prog.cellsOf 72 = 1 := by kernel_rfl
theorem pw_of {W : World} {rest : List (String × DataW Unit)} (h : laidMet Tryd.prog (("internal/strconv.uint64pow10", Rows.laid_internal_strconv_uint64pow10) :: rest) W) : PW W := by
  rw [dpow_eq] at h
  exact Lib.tabIs_of_head dpow_g dpow_t Tryd.underlying99 Tryd.underlying72 dpow_e dpow_c h

/-! ## unicode's two tables -/
theorem du8x : U8Extra Tryd.prog Tryd.lays260_ren := ⟨by kernel_rfl, by kernel_rfl, by kernel_rfl, by kernel_rfl, by kernel_rfl, by kernel_rfl, by kernel_rfl⟩
theorem dfold_g : Tryd.prog.globalNamed "unicode.asciiFold" = some 0 := by kernel_rfl
theorem dfold_t : (Tryd.prog.globals[0]?).map (·.type) = some 75 := by kernel_rfl
theorem dfold_c : Tryd.prog.cellsOf 75 = 128 := by kernel_rfl
theorem dfold_e : Tryd.prog.cellsOf 74 = 1 := by kernel_rfl
theorem daccept_eq : (Rows.laid_unicode_utf8_acceptRanges : DataW Unit) = Lib.acceptData := by kernel_rfl
theorem dorb_g : Tryd.prog.globalNamed "unicode.caseOrbit" = some 1 := by kernel_rfl
theorem dorb_t : (Tryd.prog.globals[1]?).map (·.type) = some 76 := by kernel_rfl
theorem dorb_c : Tryd.prog.cellsOf 79 = 2 := by kernel_rfl
def orbData : DataW Unit := .slice (orbit.map fun x => .agg [.lit (.int .u16 (x.1 : Int)), .lit (.int .u16 (x.2 : Int))]) []
theorem dorb_eq : (Rows.laid_unicode_caseOrbit : DataW Unit) = orbData := by kernel_rfl
theorem pair_cells {H : Type} {enc : TypeId × Value → H} {w : World} {base : Nat} {sp : Nat → Bool} {held : Bool} {fuel : Nat} {cs : List Value} {a b : Int} {p : List MemPlace} (h : DataW.trod enc Tryd.prog w base sp held fuel 79 cs = some (.agg [.lit (.int .u16 a), .lit (.int .u16 b)], p)) : cs = [.int .u16 a, .int .u16 b] := by
  obtain ⟨xs, n, rfl, hx, hl, hxl, hall⟩ := DataW.trod_struct Tryd.underlying79 h
  rw [dorb_c] at hl
  have hx3 : xs.map (·.1) = [.lit (.int .u16 a), .lit (.int .u16 b)] := by
    have := congrArg Prod.fst hx
    simpa using this.symm
  obtain ⟨x0, x1, rfl⟩ : ∃ x0 x1, xs = [x0, x1] := by
    match xs, hx3 with
    | [x0, x1], _ => exact ⟨x0, x1, rfl⟩
  simp only [List.map_cons, List.map_nil, List.cons.injEq, and_true] at hx3
  obtain ⟨e0, e1⟩ := hx3
  have f0 := hall 0 _ rfl
  have f1 := hall 1 _ rfl
  change DataW.trod _ _ _ _ _ _ _ 74 ((cs.drop 0).take (Tryd.prog.cellsOf 74)) = some x0 at f0
  change DataW.trod _ _ _ _ _ _ _ 74 ((cs.drop 1).take (Tryd.prog.cellsOf 74)) = some x1 at f1
  rw [dfold_e] at f0 f1
  have g0 : cs[0]? = some (.int .u16 a) := by
    obtain ⟨z, hz, hx', _⟩ := DataW.trod_int Tryd.underlying74 f0
    rw [hx'] at e0
    cases e0
    exact at_of_take hz
  have g1 : cs[1]? = some (.int .u16 b) := by
    obtain ⟨z, hz, hx', _⟩ := DataW.trod_int Tryd.underlying74 f1
    rw [hx'] at e1
    cases e1
    exact at_of_take hz
  match cs, hl, g0, g1 with
  | [c0, c1], _, g0, g1 =>
    simp at g0 g1
    subst g0 g1
    rfl
theorem orb_of {w : World} (h : Lib.VarReads Tryd.prog w "unicode.caseOrbit" orbData) : Orb w := by
  obtain ⟨g, t, cs, fuel, p, hg, hty, hvar, hd⟩ := h
  obtain rfl := Option.some.inj (dorb_g.symm.trans hg)
  obtain rfl := Option.some.inj (dorb_t.symm.trans hty)
  rcases DataW.trod_slice Tryd.underlying76 hd with ⟨_, hx'⟩ | ⟨a', len, cap, el, rs, m, rfl, hc0, hx', _, hlc, _, hel, helem, hsp, _⟩
  · cases hx'
  have e0 := congrArg Prod.fst hx'
  simp only [orbData, DataW.slice.injEq] at e0
  obtain ⟨eE, eR⟩ := e0
  have hlen : len = 94 := by
    have := congrArg List.length eE
    rw [List.length_map, orbit_len] at this
    simp at this
    omega
  have hrow : ∀ i, i < len → ∀ j, j < 2 → w.cell? ((a'.add (i * 2)).add j) = ([.int .u16 ((orbit.getD i (0, 0)).1 : Int), .int .u16 ((orbit.getD i (0, 0)).2 : Int)] : List Value)[j]? := by
    intro i hi j hj
    have h1 := helem i hi
    rw [dorb_c] at h1
    obtain ⟨b, hb⟩ : ∃ b, el[i]? = some b := ⟨el[i]'(by omega), List.getElem?_eq_getElem (by omega)⟩
    rw [hb] at h1
    obtain ⟨ce, hce, hte⟩ := Option.bind_eq_some_iff.1 h1
    have hb1 : b.1 = .agg [.lit (.int .u16 ((orbit.getD i (0, 0)).1 : Int)), .lit (.int .u16 ((orbit.getD i (0, 0)).2 : Int))] := by
      have := congrArg (·[i]?) eE
      simp only [List.getElem?_map, hb, Option.map_some] at this
      have hi' : i < orbit.length := by rw [orbit_len]; omega
      rw [List.getElem?_eq_getElem hi'] at this
      simp only [Option.map_some, Option.some.injEq] at this
      rw [← this]
      simp [List.getD, hi']
    have hcs := pair_cells (p := b.2) (by rw [← hb1]; exact hte)
    obtain ⟨_, _, hcc⟩ := World.cells?_some hce
    rw [hcc j hj, hcs]
  obtain ⟨R, oR, sR⟩ := a'
  obtain rfl : sR = none := by
    have h00 := hrow 0 (by omega) 0 (by omega)
    have : (Addr.add (Addr.add ⟨R, oR, sR⟩ (0 * 2)) 0) = ⟨R, oR, sR⟩ := by simp [Addr.add]
    rw [this] at h00
    exact cell_spot h00
  refine ⟨R, oR, cap, ?_, fun i hi => ?_⟩
  · rw [World.var?_cell hg hvar 0, ← Array.getElem?_toList, hc0, hlen]
    rfl
  · have k0 := hrow i (by omega) 0 (by omega)
    have k1 := hrow i (by omega) 1 (by omega)
    rw [Addr.add_lit, Addr.add_lit] at k0 k1
    exact ⟨by simpa using k0, by simpa using k1⟩
theorem fw_of {W : World} (h : laidMet Tryd.prog [("unicode/utf8.acceptRanges", Rows.laid_unicode_utf8_acceptRanges), ("unicode.asciiFold", Rows.laid_unicode_asciiFold), ("unicode.caseOrbit", Rows.laid_unicode_caseOrbit), ("unicode.CaseRanges", Rows.laid_unicode_CaseRanges), ("unicode/utf8.first", Rows.laid_unicode_utf8_first)] W) : FW W := by
  have hF : Lib.TabIs Tryd.prog W "unicode.asciiFold" .u16 foldTab := Lib.tabIs_of_head dfold_g dfold_t Tryd.underlying75 Tryd.underlying74 dfold_e dfold_c (laidMet.tail h)
  have h3 : Lib.VarReads Tryd.prog W "unicode/utf8.first" Pinned.utf8First := Lib.laidMet.reads h (.tail _ (.tail _ (.tail _ (.tail _ (.head _)))))
  have h4 : Lib.VarReads Tryd.prog W "unicode/utf8.acceptRanges" Rows.laid_unicode_utf8_acceptRanges := Lib.laidMet.reads h (.head _)
  have h5 : Lib.VarReads Tryd.prog W "unicode.caseOrbit" Rows.laid_unicode_caseOrbit := Lib.laidMet.reads h (.tail _ (.tail _ (.head _)))
  rw [Pinned.utf8First_eq] at h3
  rw [daccept_eq] at h4
  rw [dorb_eq] at h5
  exact ⟨utf8Tabs_of_reads Tryd.lays260 du8x h3 h4, fun i hi => hF.cell dfold_g i hi, orb_of h5⟩
end Go.Proofs.YtgkibkophoikoaaDoor
