/- What the rows' listed variables give seq's walks. -/
import Derived.Test.YtmcglecdidnhlaaDoorSqMem
import Derived.Test.YtmcglecdidnhlaaDoorRows
import Derived.Test.YtmcglecdidnhlaaDoorShelf
import Derived.Lib.LaidTab
import Derived.Lib.LaidU8
import Derived.Stop.LaidErr
import Derived.ChangeBears2
namespace Go.Proofs.YtmcglecdidnhlaaDoor
open Go.RowKit Go.ChangeShapes
set_option linter.unusedVariables false
set_option maxRecDepth 100000

theorem pow_eq : (Rows.laid_internal_strconv_uint64pow10 : DataW Unit) = Lib.tabData .u64 Lib.pow10Tab := by kernel_rfl
theorem pow_g : Tryd.prog.globalNamed "internal/strconv.uint64pow10" = some 5 := by kernel_rfl
theorem pow_t : (Tryd.prog.globals[5]?).map (·.type) = some 133 := by kernel_rfl
theorem pow_c : Tryd.prog.cellsOf 133 = 20 := by kernel_rfl
theorem pow_e : Tryd.prog.cellsOf 78 = 1 := by kernel_rfl
theorem err_at {W : World} {n nm : String} {d : DataW Unit} {g : Nat} (h : Lib.VarReads Tryd.prog W n (.iface nm d)) (hg : Tryd.prog.globalNamed n = some g) (ht : (Tryd.prog.globals[g]?).map (·.type) = some 80) :
    ∃ ev, W.cell? ⟨g, 0, none⟩ = some ev ∧ (ev = .nilIface ∨ ∃ te pe, ev = .iface te pe) := by
  obtain ⟨g', t', cs, fuel, p, hg', ht', hv, hd⟩ := h
  obtain rfl := Option.some.inj (hg.symm.trans hg')
  obtain rfl := Option.some.inj (ht.symm.trans ht')
  obtain ⟨l⟩ := cs
  obtain ⟨_, u, v, e, _⟩ := iface_of_trod Tryd.underlying80 hd
  simp only at e
  subst e
  exact ⟨_, World.var?_cell hg hv 0, .inr ⟨u, v, rfl⟩⟩
theorem sw_of {W : World} (h : laidMet Tryd.prog [("math/bits.deBruijn32tab", Rows.laid_math_bits_deBruijn32tab), ("math/bits.deBruijn64tab", Rows.laid_math_bits_deBruijn64tab), ("internal/strconv.uint64pow10", Rows.laid_internal_strconv_uint64pow10), ("unicode/utf8.acceptRanges", Rows.laid_unicode_utf8_acceptRanges), ("strconv.ErrRange", Rows.laid_strconv_ErrRange), ("strconv.ErrSyntax", Rows.laid_strconv_ErrSyntax), ("unicode/utf8.first", Rows.laid_unicode_utf8_first)] W)
    (hshape : W.ShapedOpen Tryd.prog) : SW W := by
  have h3 := laidMet.tail (laidMet.tail h)
  rw [pow_eq] at h3
  exact ⟨Tryd.laysM219.s1_3 W hshape,
    err_at (Lib.laidMet.reads h (.tail _ (.tail _ (.tail _ (.tail _ (.tail _ (.head _))))))) (by kernel_rfl) (by kernel_rfl),
    err_at (Lib.laidMet.reads h (.tail _ (.tail _ (.tail _ (.tail _ (.head _)))))) (by kernel_rfl) (by kernel_rfl),
    Lib.tabIs_of_head pow_g pow_t Tryd.underlying133 Tryd.underlying78 pow_e pow_c h3⟩
end Go.Proofs.YtmcglecdidnhlaaDoor
